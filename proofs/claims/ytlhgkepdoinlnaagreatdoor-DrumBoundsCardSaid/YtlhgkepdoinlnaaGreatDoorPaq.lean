/- A part of the proof: see the last file. -/
import Derived.Test.YtlhgkepdoinlnaaGreatDoorPap
import Derived.RecoverIn
set_option linter.unusedVariables false
set_option linter.unusedSimpArgs false
set_option linter.unusedSectionVars false
namespace Go.Can
open Go
variable [Glob]
set_option linter.unusedSectionVars false
section
variable {P : Program} {r : Rec}

theorem recB_ok {o : Oper} (h : recB o = true) : o.guard = none ∧ ∀ (ρ : Operand → Value) (w : World), (execOp ρ o).run P w = .ok .recover w := by
 unfold recB at h
 split at h
 ·next cl hop hg =>
  split at h
  ·next hcl =>
   refine ⟨hg, fun ρ w => ?_⟩
   unfold execOp; rw [hop]; simp only [resolve, hcl]; simp [invoke, builtin]
  ·cases h
 ·cases h

theorem movesK_ok {nt : Nat} : ∀ {l : List Oper} {tm : T Value} {k : T Value → Bool}, movesK nt l tm k = true → ∃ tm', k tm' = true ∧
  ∀ (ops : Array Oper) (i : Nat), ops.toList.drop i = l → ∀ (f : Mp) (a : Act) (cs : List Frame) (w : World) (Q : Exit → Act → List Frame → World → Prop), TR f tm nt a.tmps →
   (∀ a', a'.defers = a.defers → TR f tm' nt a'.tmps → Q .normal a' cs w) → wpOpsSIn (FW none) 0 P ops Q (List.range' i l.length) a cs w
 | [], tm, k, h => ⟨tm, h, fun ops i _ f a cs w Q ht hQ => hQ a rfl ht⟩
 | o :: l, tm, k, h => by
  simp only [movesK] at h
  split at h
  ·cases h
  ·next hg =>
   have hw : ∀ y, Region.wanted o y = true := fun y => by simp [Region.wanted, hg]
   have step : ∀ x : Operand, (∀ (ρ : Operand → Value) (w : World), (execOp ρ o).run P w = .ok (.value (ρ x)) w) → (∀ (w : World) (ρ : Operand → Value) f, o.about P w ρ = some f → (FW none).fn f) →
     (evK tm x fun v => putK o.dst v nt tm fun tm => movesK nt l tm k) = true → ∃ tm', k tm' = true ∧
     ∀ (ops : Array Oper) (i : Nat), ops.toList.drop i = o :: l → ∀ (f : Mp) (a : Act) (cs : List Frame) (w : World) (Q : Exit → Act → List Frame → World → Prop), TR f tm nt a.tmps →
      (∀ a', a'.defers = a.defers → TR f tm' nt a'.tmps → Q .normal a' cs w) → wpOpsSIn (FW none) 0 P ops Q (List.range' i (o :: l).length) a cs w := fun x hrun hab h => by
    obtain ⟨v, h1, hv⟩ := evK_ok h
    obtain ⟨tm1, h2, _, _, hput⟩ := putK_ok h1
    obtain ⟨tm', h3, h4⟩ := movesK_ok h2
    refine ⟨tm', h3, fun ops i hi f a cs w Q ht hQ => ?_⟩
    obtain ⟨e1, e2⟩ := drop_cons hi
    have e3 : ops[i]? = some o := by rw [← Array.getElem?_toList]; exact e1
    show wpOpsSIn (FW none) 0 P ops Q (i :: List.range' (i + 1) l.length) a cs w
    simp only [wpOpsSIn, e3, hw, if_true, hrun]
    exact ⟨fun g hg => hab w a.eval g hg, h4 ops (i + 1) e2 f _ cs w Q (hput f a _ ht (hv f nt a ht)) fun a' hd hta => hQ a' (by rw [hd, put_defers]) hta⟩
   split at h
   ·next x hop => exact step x (fun ρ w => by unfold execOp; rw [hop]; rfl) (fun _ _ _ _ => trivial) h
   ·next x hop => exact step x (fun ρ w => by unfold execOp; rw [hop]; rfl) (fun _ _ _ _ => trivial) h
   ·cases h

theorem goDcall_ok (hP : Fair P) (hr : Ok P r) {g : FuncId} {args : List Value} {c : CW} {k : K} (h : goDcall P r g args c k = true) :
  ∃ e v tm' ds' c', k e v tm' ds' c' = true ∧ Jdcall P g args c v c' := by
 unfold goDcall at h
 split at h
 ·next fn hf =>
  split at h
  ·next id ops rest hb =>
   split at h
   ·next o more ho =>
    split at h
    ·next hrec =>
     obtain ⟨hg, hrun⟩ := recB_ok (P := P) hrec
     obtain ⟨hle, h1⟩ := leK_ok h
     obtain ⟨tm, h2, htm⟩ := argsK_ok h1
     obtain ⟨tm0, h3, _, _, hput⟩ := putK_ok h2
     obtain ⟨tmv, h3v, hmv⟩ := movesK_ok (P := P) h3
     obtain ⟨e1, v1, tm1, ds1, c1, h4, hcode⟩ := hr _ _ _ _ _ h3v
     unfold kDcall at h4
     cases ds1 with
     | cons _ _ => cases h4
     | nil =>
      have he : e1 = .normal ∨ e1 = .ret := by cases e1 <;> first | exact .inl rfl | exact .inr rfl | cases h4
      have h5 : resK P tm1 c1 fn.results.toList [] (fun vs => k .ret (resV vs) .nil [] c1) = true := by rcases he with rfl | rfl <;> exact h4
      obtain ⟨vs, h6, h7⟩ := resK_ok h5
      refine ⟨_, _, _, _, _, h6, run_callFunc_body hP hf hb, fun f w args' hl hh K hK => callsDIn_of_wpSIn hf hb trivial fun c₀ cs hu => wpSIn_seq (wpSIn_region ?_)⟩
      have e0 : ops[0]? = some o := by rw [← Array.getElem?_toList, ho]; rfl
      have es : ops.size = more.length + 1 := by rw [← Array.length_toList, ho]; rfl
      rw [es, List.range_eq_range']
      show wpOpsSIn (FW none) 0 P ops _ (0 :: List.range' 1 more.length) _ _ _
      have hw : ∀ y, Region.wanted o y = true := fun y => by simp [Region.wanted, hg]
      simp only [wpOpsSIn, e0, hw, if_true, hrun]
      refine ⟨fun _ _ => trivial, ?_⟩
      have hrd : recoverD (c₀ :: cs) = none := by simp [recoverD, hu]
      rw [hrd]
      have ht := TR.start htm hl hle hh.glob
      refine hmv ops 1 (by rw [ho]; rfl) f _ _ w _ (hput f { tmps := args' ++ Array.replicate (fn.ntmps - args'.size) undef, defers := [] } .nilIface ht .nilIface) fun a2 ha2 hta2 => ?_
      refine wpSIn_of_wpIn rfl (hcode f a2 w none .no hta2 (by rw [ha2, put_defers]; exact .nil) hh _ fun f1 a1 w1 ht1 hd1 hh1 hx1 => ?_)
      have hdn : a1.defers = [] := by
       generalize a1.defers = dd at hd1 ⊢
       cases hd1; rfl
      obtain ⟨vs', g1, g2⟩ := h7 f1 _ a1.tmps w1 ht1 hh1
      have hc : c₀ :: cs = { c₀ with mode := .returning } :: cs := by cases c₀; simp only at hu; subst hu; rfl
      have : a1.defers = [] ∧ ∃ u', c₀ :: cs = { c₀ with mode := u' } :: cs ∧ ∃ v, (results fn a1.tmps).run P w1 = .ok v w1 ∧ retD K (.returned v) u' w1 :=
       ⟨hdn, .returning, hc, _, results_run g1, hK f1 _ w1 hh1 hx1 g2.resV⟩
      rcases he with rfl | rfl <;> exact this
    ·cases h
   ·cases h
  ·cases h
 ·cases h

theorem setsK_ok : ∀ {ts : List Tmp} {vs : List Value} {nt : Nat} {tm : T Value} {k : T Value → Bool}, setsK ts vs nt tm k = true →
  ∃ tm', k tm' = true ∧ vs.length = ts.length ∧ ∀ (f : Mp) (tmps : Array Value) (vs' : List Value), TR f tm nt tmps → LR f vs vs' → TR f tm' nt ((ts.zip vs').foldl (fun tmps x => tmps.setIfInBounds x.1 x.2) tmps)
 | [], [], nt, tm, k, h => ⟨tm, h, rfl, fun f tmps vs' ht hl => by simpa using ht⟩
 | [], _ :: _, _, _, _, h => by simp [setsK] at h
 | _ :: _, [], _, _, _, h => by simp [setsK] at h
 | t :: ts, v :: vs, nt, tm, k, h => by
  simp only [setsK] at h
  split at h
  ·next hlt =>
   obtain ⟨tm1, h1, h2⟩ := T.put_ok h
   obtain ⟨tm', h3, h4, h5⟩ := setsK_ok h1
   refine ⟨tm', h3, by simp [h4], fun f tmps vs' ht hl => ?_⟩
   cases hl
   next u us hv hl' =>
   exact h5 f _ us (ht.put hv h2 (Nat.le_of_ble_eq_true hlt)) hl'
  ·cases h

theorem loopAt_ok {c : CW} {l : Nat} {k : LoopState → Option Code → T Value → Nat → List Tmp → Code → Code → Nat → Bool} (h : loopAt c l k = true) :
  ∃ s pe tm nt ps as bd df, c.get l = some (.loop s pe tm nt ps as bd df) ∧ k s pe tm nt ps as bd df = true := by
 unfold loopAt at h
 split at h
 ·next s pe tm nt ps as bd df hg => exact ⟨s, pe, tm, nt, ps, as, bd, df, hg, h⟩
 ·cases h

/-- the record of a loop, in the heap -/
theorem HR.loop {f : Mp} {c : CW} {w : World} {l rr : Nat} {z : Z} {s : LoopState} {pe : Option Code} {tm : T Value} {nt : Nat} {ps : List Tmp} {as bd : Code} {df : Nat}
  (hh : HR f c w) (hg : c.get l = some (.loop s pe tm nt ps as bd df)) (hf : f l = some (rr, z)) :
  ∃ lp : Loop, w.heap[rr]? = some (.loop lp) ∧ lp.state = s ∧ lp.pending = pe ∧ TR f tm nt lp.tmps ∧ lp.params.toList = ps ∧ lp.assign = as ∧ lp.body = bd ∧ ∃ z, f df = some (lp.defers, z) := by
 obtain ⟨o', ho', hor⟩ := hh.obj _ _ _ _ hg hf
 cases o' with
 | loop lp => exact ⟨lp, ho', hor⟩
 | _ => exact hor.elim
theorem HR.setLoop {f : Mp} {c c' : CW} {w : World} {l rr : Nat} {z : Z} {s s' : LoopState} {pe pe' : Option Code} {tm : T Value} {nt : Nat} {ps : List Tmp} {as bd : Code} {df : Nat} {lp lp' : Loop}
  (hh : HR f c w) (hg : c.get l = some (.loop s pe tm nt ps as bd df)) (hf : f l = some (rr, z)) (ho : w.heap[rr]? = some (.loop lp))
  (hn : c'.next = c.next) (hl : c'.low = min c.low l) (hget : ∀ j, c'.get j = if j = l then some (.loop s' pe' tm nt ps as bd df) else c.get j)
  (h1 : lp'.state = s') (h2 : lp'.pending = pe') (h3 : lp'.tmps = lp.tmps) (h4 : lp'.params = lp.params) (h5 : lp'.assign = lp.assign) (h6 : lp'.body = lp.body) (h7 : lp'.defers = lp.defers) :
  HR f c' (w.putObj rr (.loop lp')) ∧ Ext f c w f c' (w.putObj rr (.loop lp')) := by
 obtain ⟨lp0, g0, _, _, g3, g4, g5, g6, z', g7⟩ := hh.loop hg hf
 rw [ho] at g0; cases g0
 exact set_HR hh hn hl hget (by simp [hg]) hf (o := .loop s' pe' tm nt ps as bd df) (o' := .loop lp') ⟨h1, h2, by rw [h3]; exact g3, by rw [h4]; exact g4, by rw [h5]; exact g5, by rw [h6]; exact g6, z', by rw [h7]; exact g7⟩ (putObj_mod ho)

theorem goYield_ok (hr : Ok P r) {l : Nat} {args : List Value} {c : CW} {k : K} (h : goYield r l args c k = true) :
  ∃ e v tm' ds' c', k e v tm' ds' c' = true ∧ Jyield P l args c v c' := by
 unfold goYield at h
 obtain ⟨s, pe, tm, nt, ps, as, bd, df, hg, h⟩ := loopAt_ok h
 obtain ⟨tm1, h1, hlen, hsets⟩ := setsK_ok h
 obtain ⟨e1, v1, tm2, ds2, c1, h2, hass⟩ := hr _ _ _ _ _ h1
 unfold kAssign at h2
 cases e1 with
 | exit id => cases h2
 | ret => cases h2
 | normal =>
  obtain ⟨s2, pe2, tmL, ntL, psL, asL, bdL, dfL, hg2, h2⟩ := loopAt_ok h2
  cases s2 with
  | busy => cases h2
  | done => cases h2
  | exhausted => cases h2
  | ready =>
   obtain ⟨c2, h3, hn2, hl2, hget2⟩ := CW.set_ok h2
   obtain ⟨e3, v3, tm3, ds3, c3, h4, hbody⟩ := hr _ _ _ _ _ h3
   unfold kEnd at h4
   obtain ⟨s4, pe4, tm4, nt4, ps4, as4, bd4, df4, hg4, h4⟩ := loopAt_ok h4
   -- how a round ends
   have fin : ∃ (jump : Option Code) (s5 : LoopState) (c5 : CW) (e v : _) (tm' : _) (ds' : _), k e (.bool jump.isNone) tm' ds' c5 = true ∧ v = Value.bool jump.isNone ∧ s5 = (if jump.isNone then LoopState.ready else .done) ∧
     c5.next = c3.next ∧ c5.low = min c3.low l ∧ (∀ j, c5.get j = if j = l then some (.loop s5 jump tm4 nt4 ps4 as4 bd4 df4) else c3.get j) ∧
     ∀ (R : Ending → World → Prop) (a : Act) (w : World) (rr : Nat), (∃ v w', (Instr.endRound rr jump).run P w = .ok v w' ∧ R (.returned v) w') → roundPost P rr R (exOf e3) a w := by
    cases e3 with
    | normal =>
     obtain ⟨c5, h5, a1, a2, a3⟩ := CW.set_ok h4
     exact ⟨none, .ready, c5, _, _, _, _, h5, rfl, rfl, a1, a2, a3, fun R a w rr h => h⟩
    | ret =>
     obtain ⟨c5, h5, a1, a2, a3⟩ := CW.set_ok h4
     exact ⟨some .ret, .done, c5, _, _, _, _, h5, rfl, rfl, a1, a2, a3, fun R a w rr h => h⟩
    | exit id =>
     obtain ⟨c5, h5, a1, a2, a3⟩ := CW.set_ok h4
     exact ⟨some (.exit id), .done, c5, _, _, _, _, h5, rfl, rfl, a1, a2, a3, fun R a w rr h => h⟩
   obtain ⟨jump, s5, c5, e, v, tm', ds', h5, _, hs5, hn5, hl5, hget5, hpost⟩ := fin
   refine ⟨e, _, tm', ds', c5, h5, fun f w args' rr z hf hl hh K hK => ?_⟩
   obtain ⟨lp, ho, g1, g2, g3, g4, g5, g6, z', g7⟩ := hh.loop hg hf
   have hsz : args'.size = lp.params.size := by
    have := hl.length
    rw [← Array.length_toList, ← Array.length_toList, g4, this, hlen]
   rw [run_yield ho hsz]
   show RoundIn (FW none) 0 P rr lp.fn _ lp.assign lp.body w (retK K)
   have htm : TR f tm1 nt ((lp.params.zip args').foldl (fun tmps (t, a) => tmps.setIfInBounds t a) lp.tmps) := by
    rw [← Array.foldl_toList, Array.toList_zip, g4]
    exact hsets f lp.tmps args'.toList g3 hl
   rw [g5, g6]
   refine roundIn_of_wpIn trivial (hass f { tmps := _, defers := [] } w (some rr) (.yes hf) htm .nil hh _ fun f1 a1 w1 ht1 hd1 hh1 hx1 => ?_)
   have hf1 := hx1.sub _ _ hf
   obtain ⟨lp1, ho1, i1, i2, i3, i4, i5, i6, z1, i7⟩ := hh1.loop hg2 hf1
   refine ⟨_, run_beginRound ho1 i1, ?_⟩
   obtain ⟨hh2, hx2⟩ := hh1.setLoop (lp' := { lp1 with state := .busy }) hg2 hf1 ho1 hn2 hl2 hget2 rfl i2 rfl rfl rfl rfl rfl
   refine hbody f1 a1 _ (some rr) (.yes hf1) ht1 hd1 hh2 _ fun f3 a3 w3 ht3 hd3 hh3 hx3 => hpost (retK K) a3 w3 rr ?_
   have hf3 := hx3.sub _ _ hf1
   obtain ⟨lp3, ho3, j1, j2, j3, j4, j5, j6, z3, j7⟩ := hh3.loop hg4 hf3
   obtain ⟨hh5, hx5⟩ := hh3.setLoop (lp' := { lp3 with state := if jump.isNone then .ready else .done, pending := jump }) hg4 hf3 ho3 hn5 hl5 hget5 hs5.symm rfl rfl rfl rfl rfl rfl
   exact ⟨_, _, run_endRound jump ho3, hK f3 _ _ hh5 (hx1.trans hh (hx2.trans hh1 (hx3.trans hh2 hx5))) (.bool _)⟩
end
end Go.Can
namespace Go.Can
open Go
variable [Glob]
set_option linter.unusedSectionVars false
section
variable {P : Program} {r : Rec}

theorem kSeq_ok (hr : Ok P r) {rd : Option Nat} {nt : Nat} {b : Code} {k : K} {e : Ex} {v : Value} {tm : T Value} {ds : List CDef} {c : CW} (h : kSeq r rd nt b k e v tm ds c = true) :
  (e = .normal ∧ ∃ e' v tm' ds' c', k e' v tm' ds' c' = true ∧ Jcode P rd nt b tm ds c e' tm' ds' c') ∨ (e ≠ .normal ∧ k e undef tm ds c = true) := by
 unfold kSeq at h
 cases e with
 | normal => obtain ⟨e', v, tm', ds', c', h1, h2⟩ := hr _ _ _ _ _ h; exact .inl ⟨rfl, e', v, tm', ds', c', h1, h2⟩
 | exit id => exact .inr ⟨by simp, h⟩
 | ret => exact .inr ⟨by simp, h⟩
theorem kBlock_ok {id : Nat} {k : K} {e : Ex} {v : Value} {tm : T Value} {ds : List CDef} {c : CW} (h : kBlock id k e v tm ds c = true) :
  ∃ e', k e' undef tm ds c = true ∧ ∀ (Q : Exit → Act → World → Prop) a w, Q (exOf e') a w → Exit.inBlock id Q (exOf e) a w := by
 unfold kBlock at h
 cases e with
 | normal => exact ⟨.normal, h, fun Q a w q => q⟩
 | ret => exact ⟨.ret, h, fun Q a w q => q⟩
 | exit j =>
  dsimp only at h
  split at h
  ·next e => exact ⟨.normal, h, fun Q a w q => by have := Nat.eq_of_beq_eq_true e; simp [exOf, Exit.inBlock, this]; exact q⟩
  ·next e => exact ⟨.exit j, h, fun Q a w q => by have := Nat.ne_of_beq_eq_false e; simp [exOf, Exit.inBlock, this]; exact q⟩
theorem kRound_ok (hr : Ok P r) {rd : Option Nat} {nt : Nat} {b : Code} {k : K} {e : Ex} {v : Value} {tm : T Value} {ds : List CDef} {c : CW} (h : kRound r rd nt b k e v tm ds c = true) :
  (e = .normal ∧ ∃ e' v tm' ds' c', k e' v tm' ds' c' = true ∧ Jround P rd nt b tm ds c e' tm' ds' c') ∨ (e ≠ .normal ∧ k e undef tm ds c = true) := by
 unfold kRound at h
 cases e with
 | normal => obtain ⟨e', v, tm', ds', c', h1, h2⟩ := hr _ _ _ _ _ h; exact .inl ⟨rfl, e', v, tm', ds', c', h1, h2⟩
 | exit id => exact .inr ⟨by simp, h⟩
 | ret => exact .inr ⟨by simp, h⟩

/-- what lies behind the call of a range over a function -/
theorem kRange_ok {l : Nat} {tm : T Value} {ds : List CDef} {k : K} {e : Ex} {v : Value} {tm1 : T Value} {ds1 : List CDef} {c : CW} (h : kRange l tm ds k e v tm1 ds1 c = true) :
  ∃ e' c', k e' undef tm ds c' = true ∧ ∀ (f : Mp) (w : World) (rr : Nat) (z : Z), HR f c w → f l = some (rr, z) → ∃ jump w', (Instr.endLoop rr).run P w = .ok jump w' ∧ HR f c' w' ∧ Ext f c w f c' w' ∧
   ∀ (rd : Option Nat) (Q : Exit → Act → World → Prop) (a : Act), Q (exOf e') a w' → (match jump with | none => Q .normal a w' | some cd => cd.wpIn (FW rd) 0 P Q a w') := by
 unfold kRange at h
 obtain ⟨s, pe, tm', nt', ps', as', bd', df, hg, h⟩ := loopAt_ok h
 have hb : s ≠ .busy ∧ c.set l (some (.loop .exhausted pe tm' nt' ps' as' bd' df)) (kJump tm ds k pe) = true := by
  cases s <;> first | exact ⟨by simp, h⟩ | cases h
 obtain ⟨hs, h⟩ := hb
 obtain ⟨c', h1, hn, hl, hget⟩ := CW.set_ok h
 have main : ∀ (f : Mp) (w : World) (rr : Nat) (z : Z), HR f c w → f l = some (rr, z) → ∃ w', (Instr.endLoop rr).run P w = .ok pe w' ∧ HR f c' w' ∧ Ext f c w f c' w' := fun f w rr z hh hf => by
  obtain ⟨lp, ho, g1, g2, g3, g4, g5, g6, g7⟩ := hh.loop hg hf
  obtain ⟨hh', hx'⟩ := hh.setLoop (lp' := { lp with state := .exhausted }) hg hf ho hn hl hget rfl g2 rfl rfl rfl rfl rfl
  exact ⟨_, by rw [run_endLoop ho (by rw [g1]; exact hs), g2], hh', hx'⟩
 cases pe with
 | none => exact ⟨.normal, c', h1, fun f w rr z hh hf => let ⟨w', a1, a2, a3⟩ := main f w rr z hh hf; ⟨none, w', a1, a2, a3, fun rd Q a q => q⟩⟩
 | some cd =>
  cases cd with
  | ret => exact ⟨.ret, c', h1, fun f w rr z hh hf => let ⟨w', a1, a2, a3⟩ := main f w rr z hh hf; ⟨some .ret, w', a1, a2, a3, fun rd Q a q => wpIn_ret q⟩⟩
  | exit id => exact ⟨.exit id, c', h1, fun f w rr z hh hf => let ⟨w', a1, a2, a3⟩ := main f w rr z hh hf; ⟨some (.exit id), w', a1, a2, a3, fun rd Q a q => wpIn_exit q⟩⟩
  | _ => cases h1

theorem range_call {g : FuncId} {args : List Value} {c2 c3 c4 : CW} {v : Value} {l : Nat} {e' : Ex} (hcall : Jcall P g args c2 v c3)
  (hend : ∀ (f : Mp) (w : World) (rr : Nat) (z : Z), HR f c3 w → f l = some (rr, z) → ∃ jump w', (Instr.endLoop rr).run P w = .ok jump w' ∧ HR f c4 w' ∧ Ext f c3 w f c4 w' ∧
   ∀ (rd : Option Nat) (Q : Exit → Act → World → Prop) (a : Act), Q (exOf e') a w' → (match jump with | none => Q .normal a w' | some cd => cd.wpIn (FW rd) 0 P Q a w'))
  {f2 : Mp} {W2 : World} {args' : Array Value} {rr : Nat} {z : Z} (hl : LR f2 args args'.toList) (hh2 : HR f2 c2 W2) (hf : f2 l = some (rr, z)) (rd : Option Nat) (Q : Exit → Act → World → Prop) (a' : Act)
  (hQ : ∀ f4 w4, HR f4 c4 w4 → Ext f2 c2 W2 f4 c4 w4 → Q (exOf e') a' w4) : CallsIn (FW none) 0 P g args' W2 (rangePost (FW rd) 0 P rr Q a') := by
 refine CallsIn.mono (hcall.2 f2 W2 args' hl hh2 (fun v w3 => rangePost (FW rd) 0 P rr Q a' (.returned v) w3) ?_) ?_
 ·intro f3 v3 w3 hh3 hx3 _
  obtain ⟨jump, w4, g1, g2, g3, g4⟩ := hend f3 w3 rr z hh3 (hx3.sub _ _ hf)
  exact ⟨jump, w4, g1, g4 rd Q _ (hQ f3 w4 g2 (hx3.trans hh2 g3))⟩
 ·intro e w' q
  cases e <;> first | exact q | exact q.elim

theorem goRange_ok (hr : Ok P r) {rd : Option Nat} {nt : Nat} {x : Operand} {fv : Value} {ps : Array Tmp} {as bd : Code} {tm : T Value} {ds : List CDef} {c : CW} {k : K} (hx : EvR tm x fv) (h : goRange r rd nt fv ps.toList as bd tm ds c k = true) :
  ∃ e v tm' ds' c', k e v tm' ds' c' = true ∧ Jcode P rd nt (.rangeFunc x ps as bd) tm ds c e tm' ds' c' := by
 unfold goRange at h
 split at h
 ·next g first cap =>
  cases rd with
  | none =>
   dsimp only at h
   obtain ⟨c1, h1, hn1, hl1, hget1⟩ := CW.new_ok h
   obtain ⟨c2, h2, hn2, hl2, hget2⟩ := CW.new_ok h1
   obtain ⟨e3, v3, tm3, ds3, c3, h3, hcf, hcall⟩ := hr _ _ _ _ _ h2
   obtain ⟨e', c4, h4, hend⟩ := kRange_ok (P := P) h3
   refine ⟨e', _, tm, _, c4, h4, fun f a w rd' hrd ht hd hh Q hQ => ?_⟩
   cases hrd
   have hfv := hx f nt a ht
   generalize hg : a.eval x = fv' at hfv
   cases hfv
   next first' cap' hl1' hl2' =>
   refine wpIn_rangeFunc fun fn _ => ?_
   -- the block and the record
   obtain ⟨hh1, hx1⟩ := new_HR (o := .obj (.deferred (some []))) (o' := .deferred (some [])) (lz := none) (w' := w.alloc (.deferred (some []))) hh hn1 hl1 hget1 rfl rfl
   have ef1 : upd f c.next (w.heap.size, none) c.next = some (w.heap.size, none) := upd_same _ _ _
   obtain ⟨hh2, hx2⟩ := new_HR (o := .loop .ready none tm nt ps.toList as bd c.next) (lz := none)
    (o' := .loop { state := .ready, pending := none, fn, tmps := a.tmps, params := ps, assign := as, body := bd, defers := w.heap.size }) (w' := (w.alloc (.deferred (some []))).alloc (.loop { state := .ready, pending := none, fn, tmps := a.tmps, params := ps, assign := as, body := bd, defers := w.heap.size }))
    hh1 hn2 hl2 hget2 ⟨rfl, rfl, ht.mono hx1.sub, rfl, rfl, rfl, none, ef1⟩ rfl
   have hx12 := hx1.trans hh hx2
   have esz : (w.alloc (.deferred (some []))).heap.size = w.heap.size + 1 := by simp
   rw [esz] at hh2 hx2 hx12
   obtain ⟨W2, hW2⟩ : ∃ W2, W2 = (w.alloc (.deferred (some []))).alloc (.loop { state := .ready, pending := none, fn, tmps := a.tmps, params := ps, assign := as, body := bd, defers := w.heap.size }) := ⟨_, rfl⟩
   rw [← hW2] at hh2 hx2 hx12
   refine ⟨w.heap.size + 1, [{ target := .collected w.heap.size, args := #[] }], W2, { target := .fn (.func g) cap', args := first' ++ #[.func (.yield (w.heap.size + 1)) #[] #[]] }, W2, g, first' ++ #[.func (.yield (w.heap.size + 1)) #[] #[]] ++ cap', W2, (by rw [hW2]; exact run_enterLoop_outer _ _ _ _ _), ?_, fun _ _ => trivial, ?_, fun e => (by cases e), ?_⟩
   ·simp only [resolve, hg, Deferred.ofValue]; simp [Act.eval]
   ·simp only [invoke]; exact hcf _ _
   ·have ef2 : upd (upd f c.next (w.heap.size, none)) c1.next (w.heap.size + 1, none) c1.next = some (w.heap.size + 1, none) := upd_same _ _ _
    refine range_call ⟨hcf, hcall⟩ hend ?_ hh2 ef2 none Q _ fun f4 w4 hh4 hx4 => ?_
    ·simpa using ((hl1'.mono hx12.sub).append (.cons (.yield ef2) .nil)).append (hl2'.mono hx12.sub)
    ·have hx := hx12.trans hh hx4
     exact hQ f4 _ w4 (ht.mono hx.sub) (.mark (hx4.sub _ _ (hx2.sub _ _ ef1)) (hd.mono hx.sub)) hh4 hx
  | some o =>
   dsimp only at h
   obtain ⟨s0, pe0, tm0, nt0, ps0, as0, bd0, d0, hg0, h⟩ := loopAt_ok h
   obtain ⟨c2, h2, hn2, hl2, hget2⟩ := CW.new_ok h
   obtain ⟨e3, v3, tm3, ds3, c3, h3, hcf, hcall⟩ := hr _ _ _ _ _ h2
   obtain ⟨e', c4, h4, hend⟩ := kRange_ok (P := P) h3
   refine ⟨e', _, tm, _, c4, h4, fun f a w rd' hrd ht hd hh Q hQ => ?_⟩
   cases hrd
   next ro zo hfo =>
   have hfv := hx f nt a ht
   generalize hg : a.eval x = fv' at hfv
   cases hfv
   next first' cap' hl1' hl2' =>
   obtain ⟨lp, hlp, k1, k2, k3, k4, k5, k6, zd, k7⟩ := hh.loop hg0 hfo
   refine wpIn_rangeFunc fun fn _ => ?_
   obtain ⟨hh2, hx2⟩ := new_HR (o := .loop .ready none tm nt ps.toList as bd d0) (lz := none)
    (o' := .loop { state := .ready, pending := none, fn, tmps := a.tmps, params := ps, assign := as, body := bd, defers := lp.defers }) (w' := w.alloc (.loop { state := .ready, pending := none, fn, tmps := a.tmps, params := ps, assign := as, body := bd, defers := lp.defers }))
    hh hn2 hl2 hget2 ⟨rfl, rfl, ht, rfl, rfl, rfl, zd, k7⟩ rfl
   obtain ⟨W2, hW2⟩ : ∃ W2, W2 = w.alloc (.loop { state := .ready, pending := none, fn, tmps := a.tmps, params := ps, assign := as, body := bd, defers := lp.defers }) := ⟨_, rfl⟩
   rw [← hW2] at hh2 hx2
   refine ⟨w.heap.size, [], W2, { target := .fn (.func g) cap', args := first' ++ #[.func (.yield w.heap.size) #[] #[]] }, W2, g, first' ++ #[.func (.yield w.heap.size) #[] #[]] ++ cap', W2, (by rw [hW2]; exact run_enterLoop_inner hlp _ _ _ _ _), ?_, fun _ _ => trivial, ?_, fun e => (by cases e), ?_⟩
   ·simp only [resolve, hg, Deferred.ofValue]; simp [Act.eval]
   ·simp only [invoke]; exact hcf _ _
   ·have ef2 : upd f c.next (w.heap.size, none) c.next = some (w.heap.size, none) := upd_same _ _ _
    refine range_call ⟨hcf, hcall⟩ hend ?_ hh2 ef2 (some ro) Q _ fun f4 w4 hh4 hx4 => ?_
    ·simpa using ((hl1'.mono hx2.sub).append (.cons (.yield ef2) .nil)).append (hl2'.mono hx2.sub)
    ·have hx := hx2.trans hh hx4
     exact hQ f4 _ w4 (ht.mono hx.sub) (hd.mono hx.sub) hh4 hx
 ·cases h
end
end Go.Can
namespace Go.Can
open Go
variable [Glob]
set_option linter.unusedSectionVars false
section
variable {P : Program} {r : Rec}

/-- what is asked of a region whose order is drawn -/
def DrawOk (P : Program) (r : Rec) : Prop := ∀ (nt : Nat) (ops : Array Oper) (tm : T Value) (ds : List CDef) (c : CW) (k : K), goDraw P r nt ops tm ds c k = true →
 ∃ tm' c' v', k .normal v' tm' ds c' = true ∧ ∀ (id : Nat) (rd : Option Nat), Jcode P rd nt (.region id ops true) tm ds c .normal tm' ds c'

theorem goCode_ok (hP : Fair P) (hr : Ok P r) (hD : DrawOk P r) {rd : Option Nat} {nt : Nat} {cd : Code} {tm : T Value} {ds : List CDef} {c : CW} {k : K} (h : goCode P r rd nt cd tm ds c k = true) :
  ∃ e v tm' ds' c', k e v tm' ds' c' = true ∧ Jcode P rd nt cd tm ds c e tm' ds' c' := by
 unfold goCode at h
 cases cd <;> simp only [codeF] at h <;> first | (cases h; done) | skip
 case skip => exact ⟨_, _, _, _, _, h, .leaf fun _ _ _ _ q => wpIn_skip q⟩
 case label l => exact ⟨_, _, _, _, _, h, .leaf fun _ _ _ _ q => wpIn_label q⟩
 case exit id => exact ⟨_, _, _, _, _, h, .leaf fun _ _ _ _ q => wpIn_exit q⟩
 case ret => exact ⟨_, _, _, _, _, h, .leaf fun _ _ _ _ q => wpIn_ret q⟩
 case seq a b =>
  obtain ⟨e1, v1, tm1, ds1, c1, h1, hj⟩ := hr _ _ _ _ _ h
  rcases kSeq_ok hr h1 with ⟨rfl, e, v, tm', ds', c', h2, hj2⟩ | ⟨he, h2⟩
  ·exact ⟨e, v, tm', ds', c', h2, Jcode.seq_go hj hj2⟩
  ·exact ⟨_, _, _, _, _, h2, Jcode.seq_out he hj⟩
 case cond x a b =>
  obtain ⟨v, h1, hv⟩ := evK_ok h
  unfold goCond at h1
  split at h1
  ·next t =>
   cases t with
   | true =>
    obtain ⟨e, v, tm', ds', c', h2, hj⟩ := hr _ _ _ _ _ h1
    exact ⟨e, v, tm', ds', c', h2, Jcode.cond (b := true) hv hj⟩
   | false =>
    obtain ⟨e, v, tm', ds', c', h2, hj⟩ := hr _ _ _ _ _ h1
    exact ⟨e, v, tm', ds', c', h2, Jcode.cond (b := false) hv hj⟩
  ·cases h1
 case block id a =>
  obtain ⟨e1, v1, tm1, ds1, c1, h1, hj⟩ := hr _ _ _ _ _ h
  obtain ⟨e', h2, he⟩ := kBlock_ok h1
  exact ⟨e', _, tm1, ds1, c1, h2, Jcode.block he hj⟩
 case scope a =>
  obtain ⟨e1, v1, tm1, ds1, c1, h1, hj⟩ := hr _ _ _ _ _ h
  exact ⟨_, _, _, _, _, h1, Jcode.scope hj⟩
 case loop a =>
  obtain ⟨e1, v1, tm1, ds1, c1, h1, hj⟩ := hr _ _ _ _ _ h
  exact ⟨_, _, _, _, _, h1, Jcode.loop hj⟩
 case region id ops draw =>
  cases draw with
  | false =>
   obtain ⟨tm', ds', c', v', h1, hj⟩ := goOps_ok hP hr ops.toList _ _ _ _ h
   exact ⟨_, _, _, _, _, h1, Jcode.region hj⟩
  | true =>
   obtain ⟨tm', c', v', h1, hj⟩ := hD nt ops tm ds c k h
   exact ⟨_, _, _, _, _, h1, hj id rd⟩
 case rangeFunc x ps as bd =>
  obtain ⟨v, h1, hv⟩ := evK_ok h
  exact goRange_ok hr hv h1

theorem goStep_ok (hP : Fair P) (hr : Ok P r) (hD : DrawOk P r) : Ok P (goStep P r) := by
 intro task tm ds c k h
 cases task with
 | code rd nt cd => exact goCode_ok hP hr hD h
 | more t =>
  cases t with
  | round rd nt a =>
   obtain ⟨e1, v1, tm1, ds1, c1, h1, hj⟩ := hr _ _ _ _ _ h
   rcases kRound_ok hr h1 with ⟨rfl, e, v, tm', ds', c', h2, hj2⟩ | ⟨he, h2⟩
   ·exact ⟨e, v, tm', ds', c', h2, Jround.again hj hj2⟩
   ·exact ⟨_, _, _, _, _, h2, Jround.out he hj⟩
  | call g args => exact goCall_ok hP hr h
  | yield l args => exact goYield_ok hr h
  | leave fn => exact goLeave_ok hr h
  | dcall g args => exact goDcall_ok hP hr h

theorem go_ok (hP : Fair P) (hD : ∀ r, Ok P r → DrawOk P r) : ∀ n, Ok P (go P n)
 | 0 => fun task tm ds c k h => by cases h
 | n+1 => goStep_ok hP (go_ok hP hD n) (hD _ (go_ok hP hD n))

theorem layK_ok : ∀ {gl : List (Nat × CObj)} {h : T CObj} {k : T CObj → Bool}, layK gl h k = true → ∃ h', k h' = true ∧ ∀ b o, h'.get b = some o → h.get b = some o ∨ (b < Glob.num ∧ (b, o) ∈ gl)
 | [], h, k, e => ⟨h, e, fun _ _ g => .inl g⟩
 | (g, o) :: l, h, k, e => by
  simp only [layK] at e
  split at e
  ·next hg =>
   obtain ⟨h1, e1, e2⟩ := T.put_ok e
   obtain ⟨h2, e3, e4⟩ := layK_ok e1
   refine ⟨h2, e3, fun b o' hb => ?_⟩
   rcases e4 b o' hb with h3 | ⟨h3, h4⟩
   ·rw [e2] at h3
    by_cases hbg : b = g
    ·rw [if_pos hbg] at h3; cases h3; subst hbg
     exact .inr ⟨Nat.le_of_ble_eq_true hg, by simp⟩
    ·rw [if_neg hbg] at h3; exact .inl h3
   ·exact .inr ⟨h3, by simp [h4]⟩
  ·cases e
def gMp : Mp := fun b => if b < Glob.num then some (b, none) else none
/-- the package-level variables hold what is told of them -/
structure GW (gl : List (Nat × CObj)) (w : World) : Prop where
 size : Glob.num ≤ w.heap.size
 holds : ∀ g o, (g, o) ∈ gl → ∃ o', w.heap[g]? = some o' ∧ OR gMp none o o'
theorem gMp_eq {b r : Nat} {z : Z} (h : gMp b = some (r, z)) : r = b ∧ z = none ∧ b < Glob.num := by
 unfold gMp at h
 split at h
 ·next hb => cases h; exact ⟨rfl, rfl, hb⟩
 ·cases h
theorem HR_g {gl : List (Nat × CObj)} {w : World} (hw : GW gl w) {h : T CObj} (hh : ∀ b o, h.get b = some o → b < Glob.num ∧ (b, o) ∈ gl) : HR gMp ⟨h, Glob.num, Glob.num⟩ w :=
 ⟨fun b1 b2 r l1 l2 _ _ e1 e2 => by rw [← (gMp_eq e1).1, (gMp_eq e2).1],
  fun b o r lz h1 h2 => by
   obtain ⟨rfl, rfl, _⟩ := gMp_eq h2
   exact hw.holds _ o (hh _ _ h1).2,
  fun b r lz e => by obtain ⟨rfl, _, h3⟩ := gMp_eq e; exact ⟨Nat.lt_of_lt_of_le h3 hw.size, h3⟩,
  fun b hb => by
   obtain ⟨o, ho⟩ := Option.isSome_iff_exists.1 hb
   exact (hh b o ho).1,
  fun g hg => by simp [gMp, hg]⟩
/-- **A function without arguments that the evaluator runs to a result which 'chk' takes does so at every world whose package-level variables hold what was told, and leaves what was there as it was.** -/
theorem runs_ok (hP : Fair P) (hD : ∀ r, Ok P r → DrawOk P r) {n : Nat} {g : FuncId} {gl : List (Nat × CObj)} {chk : Value → Bool} (h : runs P n g gl chk = true) (w : World) (hw : GW gl w) :
  ∃ v, chk v = true ∧ CallsIn (FW none) 0 P g #[] w (retK fun v' w' => (∃ f', VR f' v v') ∧ w.heap.size ≤ w'.heap.size ∧ (∀ i, i < w.heap.size → w'.heap[i]? = w.heap[i]?) ∧ w'.tape = w.tape ∧ w'.os = w.os ∧ w'.output = w.output) := by
 obtain ⟨h', g1, g2⟩ := layK_ok h
 obtain ⟨e, v, tm', ds', c', h1, _, h2⟩ := go_ok hP hD n _ _ _ _ _ g1
 unfold kLow at h1
 split at h1
 ·next hlow =>
  have hlow := Nat.le_of_ble_eq_true hlow
  have hh : ∀ b o, h'.get b = some o → b < Glob.num ∧ (b, o) ∈ gl := fun b o hb => by
   rcases g2 b o hb with h3 | h3
   ·rw [T.get_nil] at h3; cases h3
   ·exact h3
  refine ⟨v, h1, h2 gMp w #[] .nil (HR_g hw hh) _ fun f' v' w' _ hx hv => ⟨⟨f', hv⟩, hx.size, fun i hi => hx.old i hi fun b lz hb hf => ?_, hx.tape, hx.os, hx.output⟩⟩
  exact Nat.lt_of_lt_of_le (gMp_eq hf).2.2 hlow
 ·cases h1
end
end Go.Can
namespace Go.Can
open Go
variable [Glob]
set_option linter.unusedSectionVars false

/-! ### A part of the heap, and the whole -/
def cut (f : Mp) (n : Nat) : Mp := fun b => if b < n then f b else none
theorem cut_lt {f : Mp} {n b : Nat} (h : b < n) : cut f n b = f b := by simp [cut, h]
theorem cut_ge {f : Mp} {n b : Nat} (h : n ≤ b) : cut f n b = none := by simp [cut, Nat.not_lt.2 h]
theorem cut_sub (f : Mp) (n : Nat) : Sub (cut f n) f := fun b x e => by
  by_cases h : b < n
  · rwa [cut_lt h] at e
  · rw [cut_ge (by omega)] at e; cases e
theorem cut_mono (f : Mp) {n m : Nat} (h : n ≤ m) : Sub (cut f n) (cut f m) := fun b x e => by
  by_cases hb : b < n
  · rw [cut_lt hb] at e; rw [cut_lt (by omega)]; exact e
  · rw [cut_ge (by omega)] at e; cases e
theorem Sub.cut {f g : Mp} (h : Sub f g) (n : Nat) : Sub (cut f n) (Can.cut g n) := fun b x e => by
  by_cases hb : b < n
  · rw [cut_lt hb] at e ⊢; exact h b x e
  · rw [cut_ge (by omega)] at e; cases e

theorem GL.cut {f : Mp} (h : GL f) {n : Nat} (hn : Glob.num ≤ n) : GL (Can.cut f n) := fun g hg => by rw [cut_lt (Nat.lt_of_lt_of_le hg hn)]; exact h g hg
theorem HR.num_le {f : Mp} {c : CW} {w : World} (h : HR f c w) : Glob.num ≤ c.next := by
  rcases Nat.eq_zero_or_pos (Glob.num) with e | e
  · omega
  · have := (h.dom (Glob.num - 1) _ _ (h.glob (Glob.num - 1) (by omega))).2; omega

/-- how a heap, told by a function, stands to a world; B: what a block holds leads to blocks below that number -/
structure GR (f : Mp) (C : Nat → Option CObj) (B : Nat → Nat) (w : World) : Prop where
  inj : ∀ b1 b2 r l1 l2, (C b1).isSome = true → (C b2).isSome = true → f b1 = some (r, l1) → f b2 = some (r, l2) → b1 = b2
  obj : ∀ b o r lz, C b = some o → f b = some (r, lz) → ∃ o', w.heap[r]? = some o' ∧ OR (cut f (B b)) lz o o'
  lt : ∀ b r lz, f b = some (r, lz) → r < w.heap.size
  glob : GL f

theorem GR.frag {f : Mp} {C : Nat → Option CObj} {B : Nat → Nat} {w : World} {pre : CW} (h : GR f C B w) (hf : ∀ b o, pre.get b = some o → C b = some o)
    (hl : ∀ b, (pre.get b).isSome = true → b < pre.next) (hB : ∀ b, (pre.get b).isSome = true → B b ≤ pre.next) (hgn : Glob.num ≤ pre.next) : HR (cut f pre.next) pre w := by
  have some_of : ∀ b, (pre.get b).isSome = true → (C b).isSome = true := fun b hb => by
    obtain ⟨o, ho⟩ := Option.isSome_iff_exists.1 hb
    rw [hf b o ho]; rfl
  refine ⟨fun b1 b2 r l1 l2 h1 h2 e1 e2 => h.inj b1 b2 r l1 l2 (some_of b1 h1) (some_of b2 h2) (cut_sub _ _ _ _ e1) (cut_sub _ _ _ _ e2), ?_, ?_, hl, h.glob.cut hgn⟩
  · intro b o r lz e1 e2
    have e3 := cut_sub _ _ _ _ e2
    obtain ⟨o', g1, g2⟩ := h.obj b o r lz (hf b o e1) e3
    exact ⟨o', g1, g2.mono (cut_mono f (hB b (by rw [e1]; rfl)))⟩
  · intro b r lz e
    refine ⟨h.lt b r lz (cut_sub _ _ _ _ e), ?_⟩
    by_cases hb : b < pre.next
    · exact hb
    · rw [cut_ge (by omega)] at e; cases e

def glueM (f f' : Mp) (n : Nat) : Mp := fun b => if b < n then f' b else f b
/-- a step on a part of the heap, seen on the whole -/
theorem GR.glue {f f' : Mp} {C C' : Nat → Option CObj} {B B' : Nat → Nat} {w w' : World} {pre post : CW} (h : GR f C B w) (hf : ∀ b o, pre.get b = some o → C b = some o)
    (hnone : ∀ b, pre.next ≤ b → b < post.next → f b = none) (hl : ∀ b, (pre.get b).isSome = true → b < pre.next)
    (hr : HR f' post w') (hx : Ext (cut f pre.next) pre w f' post w')
    (hC1 : ∀ b, (pre.get b).isSome = true ∨ (pre.next ≤ b ∧ b < post.next) → C' b = post.get b) (hC2 : ∀ b, ¬ ((pre.get b).isSome = true ∨ (pre.next ≤ b ∧ b < post.next)) → C' b = C b)
    (hB1 : ∀ b, (pre.get b).isSome = true ∨ (pre.next ≤ b ∧ b < post.next) → B' b = post.next ∨ (B' b = B b ∧ (pre.get b).isSome = true ∧ b < post.low)) (hB2 : ∀ b, ¬ ((pre.get b).isSome = true ∨ (pre.next ≤ b ∧ b < post.next)) → B' b = B b) :
    Sub f (glueM f f' post.next) ∧ Sub f' (glueM f f' post.next) ∧ (∀ b, b < pre.next → glueM f f' post.next b = f b) ∧ GR (glueM f f' post.next) C' B' w' := by
  have hle := hx.next
  have g_lt : ∀ b, b < post.next → glueM f f' post.next b = f' b := fun b hb => by simp [glueM, hb]
  have g_ge : ∀ b, post.next ≤ b → glueM f f' post.next b = f b := fun b hb => by simp [glueM, Nat.not_lt.2 hb]
  have old : ∀ b, b < pre.next → f' b = f b := fun b hb => by
    cases e : f b with
    | some x => exact hx.sub b x (by rw [cut_lt hb]; exact e)
    | none =>
      cases e' : f' b with
      | none => rfl
      | some y =>
        rcases hx.new b y e' with h1 | h1
        · rw [cut_lt hb, e] at h1; cases h1
        · omega
  have g_old : ∀ b, b < pre.next → glueM f f' post.next b = f b := fun b hb => by rw [g_lt b (by omega)]; exact old b hb
  have s1 : Sub f (glueM f f' post.next) := fun b x e => by
    by_cases h1 : b < pre.next
    · rw [g_old b h1]; exact e
    · by_cases h2 : b < post.next
      · rw [hnone b (by omega) h2] at e; cases e
      · rw [g_ge b (by omega)]; exact e
  have s2 : Sub f' (glueM f f' post.next) := fun b x e => by
    rw [g_lt b (hr.dom b x.1 x.2 e).2]; exact e
  -- where the blocks outside of the part lie: not where the part's blocks come to lie
  have apart : ∀ b1 b2 r l1 l2, ((pre.get b1).isSome = true ∨ (pre.next ≤ b1 ∧ b1 < post.next)) → (post.get b1).isSome = true → ¬ ((pre.get b2).isSome = true ∨ (pre.next ≤ b2 ∧ b2 < post.next)) →
      (C b2).isSome = true → f' b1 = some (r, l1) → f b2 = some (r, l2) → False := by
    intro b1 b2 r l1 l2 h1 h1s h2 h2s e1 e2
    have key : ∀ b0 l0, (pre.get b0).isSome = true → cut f pre.next b0 = some (r, l0) → False := fun b0 l0 g1 g2 => by
      obtain ⟨o, ho⟩ := Option.isSome_iff_exists.1 g1
      have := h.inj b0 b2 r l0 l2 (by rw [hf b0 o ho]; rfl) h2s (cut_sub _ _ _ _ g2) e2
      subst this; exact h2 (.inl g1)
    by_cases hb : b1 < pre.next
    · rcases h1 with h1 | h1
      · exact key b1 l1 h1 (by rw [cut_lt hb, ← old b1 hb]; exact e1)
      · omega
    · rcases hx.fresh b1 r l1 (cut_ge (by omega)) e1 with h3 | ⟨b0, l0, h3, h4, _⟩
      · have := h.lt b2 r l2 e2; omega
      · exact key b0 l0 h3 h4
  refine ⟨s1, s2, g_old, ⟨?_, ?_, ?_, h.glob.mono s1⟩⟩
  · intro b1 b2 r l1 l2 h1 h2 e1 e2
    by_cases i1 : (pre.get b1).isSome = true ∨ (pre.next ≤ b1 ∧ b1 < post.next)
    · have n1 : b1 < post.next := by rcases i1 with i | i; · have := hl b1 i; omega
                                     · exact i.2
      rw [hC1 b1 i1] at h1; rw [g_lt b1 n1] at e1
      by_cases i2 : (pre.get b2).isSome = true ∨ (pre.next ≤ b2 ∧ b2 < post.next)
      · have n2 : b2 < post.next := by rcases i2 with i | i; · have := hl b2 i; omega
                                       · exact i.2
        rw [hC1 b2 i2] at h2; rw [g_lt b2 n2] at e2
        exact hr.inj b1 b2 r l1 l2 h1 h2 e1 e2
      · rw [hC2 b2 i2] at h2
        have e2' : f b2 = some (r, l2) := by
          by_cases hb : b2 < pre.next
          · rwa [g_old b2 hb] at e2
          · rwa [g_ge b2 (by have := fun h => i2 (.inr ⟨by omega, h⟩); omega)] at e2
        exact (apart b1 b2 r l1 l2 i1 h1 i2 h2 e1 e2').elim
    · rw [hC2 b1 i1] at h1
      have e1' : f b1 = some (r, l1) := by
        by_cases hb : b1 < pre.next
        · rwa [g_old b1 hb] at e1
        · rwa [g_ge b1 (by have := fun h => i1 (.inr ⟨by omega, h⟩); omega)] at e1
      by_cases i2 : (pre.get b2).isSome = true ∨ (pre.next ≤ b2 ∧ b2 < post.next)
      · have n2 : b2 < post.next := by rcases i2 with i | i; · have := hl b2 i; omega
                                       · exact i.2
        rw [hC1 b2 i2] at h2; rw [g_lt b2 n2] at e2
        exact (apart b2 b1 r l2 l1 i2 h2 i1 h1 e2 e1').elim
      · rw [hC2 b2 i2] at h2
        have e2' : f b2 = some (r, l2) := by
          by_cases hb : b2 < pre.next
          · rwa [g_old b2 hb] at e2
          · rwa [g_ge b2 (by have := fun h => i2 (.inr ⟨by omega, h⟩); omega)] at e2
        exact h.inj b1 b2 r l1 l2 h1 h2 e1' e2'
  · intro b o r lz e1 e2
    by_cases i1 : (pre.get b).isSome = true ∨ (pre.next ≤ b ∧ b < post.next)
    · have n1 : b < post.next := by rcases i1 with i | i; · have := hl b i; omega
                                    · exact i.2
      rw [hC1 b i1] at e1; rw [g_lt b n1] at e2
      rcases hB1 b i1 with hB | ⟨hB, ha, hlo⟩
      · obtain ⟨o', g1, g2⟩ := hr.obj b o r lz e1 e2
        refine ⟨o', g1, g2.mono fun b2 x e3 => ?_⟩
        have n2 := (hr.dom b2 x.1 x.2 e3).2
        rw [hB, cut_lt n2]; exact s2 b2 x e3
      · have hb := hl b ha
        rw [hx.kept b hb hlo] at e1
        rw [old b hb] at e2
        obtain ⟨o', g1, g2⟩ := h.obj b o r lz (hf b o e1) e2
        refine ⟨o', ?_, by rw [hB]; exact g2.mono (s1.cut _)⟩
        rw [← g1]
        refine hx.old r (h.lt b r lz e2) fun b0 l0 g3 g4 => ?_
        obtain ⟨o0, ho⟩ := Option.isSome_iff_exists.1 g3
        have := h.inj b0 b r l0 lz (by rw [hf b0 o0 ho]; rfl) (by rw [hf b o e1]; rfl) (cut_sub _ _ _ _ g4) e2
        rw [this]; exact hlo
    · rw [hC2 b i1] at e1
      have e2' : f b = some (r, lz) := by
        by_cases hb : b < pre.next
        · rwa [g_old b hb] at e2
        · rwa [g_ge b (by have := fun h => i1 (.inr ⟨by omega, h⟩); omega)] at e2
      obtain ⟨o', g1, g2⟩ := h.obj b o r lz e1 e2'
      refine ⟨o', ?_, by rw [hB2 b i1]; exact g2.mono (s1.cut _)⟩
      rw [← g1]
      refine hx.old r (h.lt b r lz e2') fun b0 l0 g3 g4 => ?_
      exfalso
      obtain ⟨o0, ho⟩ := Option.isSome_iff_exists.1 g3
      have := h.inj b0 b r l0 lz (by rw [hf b0 o0 ho]; rfl) (by rw [e1]; rfl) (cut_sub _ _ _ _ g4) e2'
      subst this; exact i1 (.inl g3)
  · intro b r lz e
    by_cases n1 : b < post.next
    · rw [g_lt b n1] at e; exact (hr.dom b r lz e).1
    · rw [g_ge b (by omega)] at e
      exact Nat.lt_of_lt_of_le (h.lt b r lz e) hx.size
end Go.Can
namespace Go.Can
open Go
variable [Glob]
set_option linter.unusedSectionVars false

/-- one operation of a drawn region, as the evaluator ran it (in the order of the text) -/
structure St where
 o : Oper
 wanted : Bool
 tm : T Value
 tmr : T Value
 pre : CW
 post : CW
 v : Value
 full : Bool
 lim : Nat
def St.has (s : St) (b : Nat) : Prop := (s.pre.get b).isSome = true ∨ (s.pre.next ≤ b ∧ b < s.post.next)
def St.tch (_nx0 : Nat) (s : St) (b : Nat) : Prop := s.has b ∧ (s.lim ≤ b ∨ s.full = true)

open Classical in
/-- what the last of those that are done, and that p holds of, says; lists have the last one first -/
noncomputable def pick {α : Type} (S : Nat → Bool) (p : St → Prop) (g : St → α) (d : α) : List St → α
 | [] => d
 | s :: L => if S L.length = true ∧ p s then g s else pick S p g d L

def setS (S : Nat → Bool) (i : Nat) : Nat → Bool := fun j => if j = i then true else S j
theorem setS_same (S : Nat → Bool) (i : Nat) : setS S i i = true := by simp [setS]
theorem setS_other {S : Nat → Bool} {i j : Nat} (h : j ≠ i) : setS S i j = S j := by simp [setS, h]

theorem pick_below {α : Type} {S : Nat → Bool} {p : St → Prop} {g : St → α} {d : α} {i : Nat} : ∀ {L : List St}, L.length ≤ i → pick (setS S i) p g d L = pick S p g d L
 | [], _ => rfl
 | s :: L, h => by
  simp only [List.length_cons] at h
  have e1 : setS S i L.length = S L.length := setS_other (by omega)
  have e2 := pick_below (S := S) (p := p) (g := g) (d := d) (L := L) (i := i) (by omega)
  simp only [pick]
  rw [e1, e2]
theorem pick_set {α : Type} {S : Nat → Bool} {p : St → Prop} {g : St → α} {d : α} {s : St} {L1 : List St} (hS : S L1.length = false) : ∀ {L2 : List St},
  (p s → ∀ L2a t L2b, L2 = L2a ++ t :: L2b → S (L2b ++ s :: L1).length = true → ¬ p t) →
  (p s → pick (setS S L1.length) p g d (L2 ++ s :: L1) = g s) ∧ (¬ p s → pick (setS S L1.length) p g d (L2 ++ s :: L1) = pick S p g d (L2 ++ s :: L1))
 | [], _ => by
  have e1 := setS_same S L1.length
  constructor
  ·intro hp
   simp only [List.nil_append, pick]
   rw [if_pos ⟨e1, hp⟩]
  ·intro hp
   simp only [List.nil_append, pick]
   rw [if_neg (fun x => hp x.2), if_neg (fun x => hp x.2)]
   exact pick_below (Nat.le_refl _)
 | t :: L2, h => by
  have hp : (L2 ++ s :: L1).length ≠ L1.length := by simp; omega
  have e1 : setS S L1.length (L2 ++ s :: L1).length = S (L2 ++ s :: L1).length := setS_other hp
  obtain ⟨h1, h2⟩ := pick_set (g := g) (d := d) hS (L2 := L2) fun hp L2a u L2b e => h hp (t :: L2a) u L2b (by rw [e]; rfl)
  constructor
  ·intro q
   have hn := h q [] t L2 rfl
   simp only [List.cons_append, pick]
   rw [e1, if_neg (fun x => hn x.1 x.2), h1 q]
  ·intro q
   simp only [List.cons_append, pick]
   rw [e1, h2 q]
theorem pick_skip {α : Type} {S : Nat → Bool} {p : St → Prop} {g : St → α} {d : α} {M : List St} : ∀ {L2 : List St}, (∀ L2a t L2b, L2 = L2a ++ t :: L2b → S (L2b ++ M).length = true → ¬ p t) →
  pick S p g d (L2 ++ M) = pick S p g d M
 | [], _ => rfl
 | t :: L2, h => by
  have hn := h [] t L2 rfl
  simp only [List.cons_append, pick]
  rw [if_neg (fun x => hn x.1 x.2)]
  exact pick_skip fun L2a u L2b e => h (t :: L2a) u L2b (by rw [e]; rfl)

section
variable (f0 : Mp) (base : CW) (tm0 : T Value) (nt : Nat) (a0 : Act) (w0 : World)
noncomputable def CS (S : Nat → Bool) (L : List St) (b : Nat) : Option CObj := pick S (fun s => s.tch base.next b) (fun s => s.post.get b) (base.get b) L
noncomputable def BdS (S : Nat → Bool) (L : List St) (b : Nat) : Nat := pick S (fun s => s.tch base.next b) (fun s => s.post.next) base.next L
noncomputable def CV (S : Nat → Bool) (L : List St) (t : Tmp) : Value := pick S (fun s => s.o.dst = some t) (fun s => s.v) (undefd (tm0.get t)) L
noncomputable def BV (S : Nat → Bool) (L : List St) (t : Tmp) : Nat := pick S (fun s => s.o.dst = some t) (fun s => s.post.next) base.next L

def At (L : List St) (i : Nat) (s : St) : Prop := ∃ L2 L1, L = L2 ++ s :: L1 ∧ L1.length = i
/-- what no world is needed for -/
structure DK (s : St) : Prop where
 kept : ∀ b, b < s.pre.next → b < s.post.low → s.post.get b = s.pre.get b
 dead : ∀ b, b < s.pre.next → s.pre.get b = none → s.post.get b = none
 low : s.post.low ≤ s.pre.low
 next : s.pre.next ≤ s.post.next
 live : ∀ b, (s.post.get b).isSome = true → b < s.post.next

/-- those of S are done -/
structure Inv (L : List St) (S : Nat → Bool) (f : Mp) (a : Act) (w : World) : Prop where
 gr : GR f (CS base S L) (BdS base S L) w
 sub : Sub f0 f
 low : ∀ b x, b < base.next → f b = some x → f0 b = some x
 own : ∀ b x, base.next ≤ b → f b = some x → ∃ i s, At L i s ∧ S i = true ∧ s.pre.next ≤ b ∧ b < s.post.next
 size : a.tmps.size = nt
 tmp : ∀ t, VR (cut f (BV base S L t)) (CV tm0 S L t) (a.tmps.getD t undef)
 defs : a.defers = a0.defers
 grow : w0.heap.size ≤ w.heap.size
 tape : w.tape = w0.tape
 os : w.os = w0.os
 output : w.output = w0.output
 old : ∀ r, r < w0.heap.size → (∀ b lz, (base.get b).isSome = true → f0 b = some (r, lz) → ∀ i s, At L i s → S i = true → s.full = true → b < s.post.low) → w.heap[r]? = w0.heap[r]?
 fresh : ∀ b r lz, f0 b = none → f b = some (r, lz) → w0.heap.size ≤ r ∨ ∃ b0 lz0, (base.get b0).isSome = true ∧ f0 b0 = some (r, lz0) ∧ ∃ i s, At L i s ∧ S i = true ∧ s.full = true ∧ s.post.low ≤ b0
 dk : ∀ i s, At L i s → S i = true → DK s
 dead : ∀ b, b < base.next → base.get b = none → CS base S L b = none
end
end Go.Can
namespace Go.Can
open Go
variable [Glob]
set_option linter.unusedSectionVars false

theorem At.uniq {L L2 L1 : List St} {s s' : St} {i : Nat} (h : At L i s') (hL : L = L2 ++ s :: L1) (hi : L1.length = i) : s' = s := by
 obtain ⟨M2, M1, hM, hm⟩ := h
 rw [hL] at hM
 have hlen : L2.length = M2.length := by
  have := congrArg List.length hM
  simp at this; omega
 have := (List.append_inj hM hlen).2
 exact (List.cons.inj this).1.symm

section
variable {f0 : Mp} {base : CW} {tm0 : T Value} {nt : Nat} {a0 : Act} {w0 : World}

theorem Inv.step {L L2 L1 : List St} {s : St} {S : Nat → Bool} {f : Mp} {a : Act} {w : World} (hI : Inv f0 base tm0 nt a0 w0 L S f a w) (hL : L = L2 ++ s :: L1) (hS : S L1.length = false) (h0 : HR f0 base w0)
  (hnx : base.next ≤ s.lim) (hlim : s.lim ≤ s.pre.next) (hlive : ∀ b, (s.pre.get b).isSome = true → b < s.pre.next)
  (hA : ∀ b o, s.pre.get b = some o → CS base S L b = some o) (hB : ∀ b, (s.pre.get b).isSome = true → BdS base S L b ≤ s.pre.next)
  (hlate : ∀ b, s.has b → ∀ L2a t L2b, L2 = L2a ++ t :: L2b → S (L2b ++ s :: L1).length = true → ¬ t.tch base.next b)
  (hdst : ∀ d, s.o.dst = some d → d < nt ∧ ∀ L2a t L2b, L2 = L2a ++ t :: L2b → S (L2b ++ s :: L1).length = true → t.o.dst ≠ some d)
  (hrange : ∀ j t, At L j t → S j = true → t.post.next ≤ s.pre.next ∨ s.post.next ≤ t.pre.next)
  (hfull : s.full = false → s.lim ≤ s.post.low)
  {f' : Mp} {u : Value} {w' : World} (hr : HR f' s.post w') (hx : Ext (cut f s.pre.next) s.pre w f' s.post w') (hu : VR f' s.v u) :
  Inv f0 base tm0 nt a0 w0 L (setS S L1.length) (glueM f f' s.post.next) (a.put s.o.dst u) w' := by
 have atS : At L L1.length s := ⟨L2, L1, hL, rfl⟩
 have hS' : ∀ j, S j = true → setS S L1.length j = true := fun j h => by
  by_cases e : j = L1.length
  ·rw [e]; exact setS_same _ _
  ·rw [setS_other e]; exact h
 have hle := hx.next
 have hC := fun b => pick_set (p := fun s => s.tch base.next b) (g := fun s => s.post.get b) (d := base.get b) hS (L2 := L2) fun hp => hlate b hp.1
 have hBd := fun b => pick_set (p := fun s => s.tch base.next b) (g := fun s => s.post.next) (d := base.next) hS (L2 := L2) fun hp => hlate b hp.1
 have hCt : ∀ b, s.tch base.next b → CS base (setS S L1.length) L b = s.post.get b := fun b hb => by unfold CS; rw [hL]; exact (hC b).1 hb
 have hCn : ∀ b, ¬ s.tch base.next b → CS base (setS S L1.length) L b = CS base S L b := fun b hb => by unfold CS; rw [hL]; exact (hC b).2 hb
 have hBt : ∀ b, s.tch base.next b → BdS base (setS S L1.length) L b = s.post.next := fun b hb => by unfold BdS; rw [hL]; exact (hBd b).1 hb
 have hBn : ∀ b, ¬ s.tch base.next b → BdS base (setS S L1.length) L b = BdS base S L b := fun b hb => by unfold BdS; rw [hL]; exact (hBd b).2 hb
 -- what the operation sees and does not touch
 have quiet : ∀ b, s.has b → ¬ s.tch base.next b → (s.pre.get b).isSome = true ∧ b < s.lim ∧ b < s.post.low := fun b hb hn => by
  have h1 : ¬ (s.lim ≤ b ∨ s.full = true) := fun h => hn ⟨hb, h⟩
  have h2 : b < s.lim := by have := fun h => h1 (.inl h); omega
  have h3 : s.full = false := by cases e : s.full with
   | false => rfl
   | true => exact (h1 (.inr e)).elim
  refine ⟨?_, h2, Nat.lt_of_lt_of_le h2 (hfull h3)⟩
  rcases hb with hb | hb
  ·exact hb
  ·omega
 obtain ⟨s1, s2, g_old, hgr⟩ := GR.glue (C' := CS base (setS S L1.length) L) (B' := BdS base (setS S L1.length) L) hI.gr hA
  (fun b h1 h2 => by
   cases e : f b with
   | none => rfl
   | some x =>
    obtain ⟨j, t, ha, hj, g1, g2⟩ := hI.own b x (by omega) e
    rcases hrange j t ha hj with h | h <;> omega) hlive hr hx
  (fun b hb => by
   by_cases ht : s.tch base.next b
   ·exact hCt b ht
   ·obtain ⟨q1, q2, q3⟩ := quiet b hb ht
    rw [hCn b ht, hx.kept b (by omega) q3]
    obtain ⟨o, ho⟩ := Option.isSome_iff_exists.1 q1
    rw [hA b o ho, ho])
  (fun b hb => hCn b fun ht => hb ht.1)
  (fun b hb => by
   by_cases ht : s.tch base.next b
   ·exact .inl (hBt b ht)
   ·obtain ⟨q1, q2, q3⟩ := quiet b hb ht
    exact .inr ⟨hBn b ht, q1, q3⟩)
  (fun b hb => hBn b fun ht => hb ht.1)
 have g_lt : ∀ b, b < s.post.next → glueM f f' s.post.next b = f' b := fun b hb => by simp [glueM, hb]
 have g_ge : ∀ b, s.post.next ≤ b → glueM f f' s.post.next b = f b := fun b hb => by simp [glueM, Nat.not_lt.2 hb]
 have baseLive : ∀ b, b < base.next → (s.pre.get b).isSome = true → (base.get b).isSome = true := fun b hb hp => by
  cases e : base.get b with
  | some o => rfl
  | none =>
   obtain ⟨o, ho⟩ := Option.isSome_iff_exists.1 hp
   have := hI.dead b hb e
   rw [hA b o ho] at this; cases this
 have f0_none : ∀ b, base.next ≤ b → f0 b = none := fun b hb => h0.fresh hb
 refine ⟨hgr, hI.sub.trans s1, ?_, ?_, ?_, ?_, ?_, Nat.le_trans hI.grow hx.size, hx.tape.trans hI.tape, hx.os.trans hI.os, hx.output.trans hI.output, ?_, ?_, ?_, ?_⟩
 ·intro b x hb e
  rw [g_old b (by omega)] at e; exact hI.low b x hb e
 ·intro b x hb e
  by_cases h1 : b < s.pre.next
  ·rw [g_old b h1] at e
   obtain ⟨j, t, ha, hj, g⟩ := hI.own b x hb e
   exact ⟨j, t, ha, hS' j hj, g⟩
  ·by_cases h2 : b < s.post.next
   ·exact ⟨L1.length, s, atS, setS_same _ _, by omega, h2⟩
   ·rw [g_ge b (by omega)] at e
    obtain ⟨j, t, ha, hj, g⟩ := hI.own b x hb e
    exact ⟨j, t, ha, hS' j hj, g⟩
 ·cases s.o.dst with
  | none => exact hI.size
  | some d => simp [Act.put, hI.size]
 ·intro t
  have hV := pick_set (p := fun s => s.o.dst = some t) (g := fun s => s.v) (d := undefd (tm0.get t)) hS (L2 := L2) fun hp L2a t' L2b e hj => (hdst t hp).2 L2a t' L2b e hj
  have hW := pick_set (p := fun s => s.o.dst = some t) (g := fun s => s.post.next) (d := base.next) hS (L2 := L2) fun hp L2a t' L2b e hj => (hdst t hp).2 L2a t' L2b e hj
  by_cases hd : s.o.dst = some t
  ·have e1 : CV tm0 (setS S L1.length) L t = s.v := by unfold CV; rw [hL]; exact hV.1 hd
   have e2 : BV base (setS S L1.length) L t = s.post.next := by unfold BV; rw [hL]; exact hW.1 hd
   have e3 : (a.put s.o.dst u).tmps.getD t undef = u := by
    have hlt := (hdst t hd).1
    rw [hd]; simp [Act.put, Array.getD, hI.size, hlt]
   rw [e1, e2, e3]
   exact hu.mono fun b x e => by
    have := (hr.dom b x.1 x.2 e).2
    rw [cut_lt this]; exact s2 b x e
  ·have e1 : CV tm0 (setS S L1.length) L t = CV tm0 S L t := by unfold CV; rw [hL]; exact hV.2 hd
   have e2 : BV base (setS S L1.length) L t = BV base S L t := by unfold BV; rw [hL]; exact hW.2 hd
   have e3 : (a.put s.o.dst u).tmps.getD t undef = a.tmps.getD t undef := by
    cases hd' : s.o.dst with
    | none => rfl
    | some d =>
     have hne : d ≠ t := fun e => hd (by rw [hd', e])
     simp [Act.put, Array.getD_eq_getD_getElem?, Array.getElem?_setIfInBounds_ne hne]
   rw [e1, e2, e3]
   exact (hI.tmp t).mono (s1.cut _)
 ·rw [put_defers]; exact hI.defs
 ·intro r hr0 H
  have e1 := hI.old r hr0 fun b lz hb hf i s' ha hi hfl => H b lz hb hf i s' ha (hS' i hi) hfl
  rw [← e1]
  refine hx.old r (Nat.lt_of_lt_of_le hr0 hI.grow) fun b lz hb hf => ?_
  have hf1 := cut_sub _ _ _ _ hf
  by_cases hbn : b < base.next
  ·have hf0 := hI.low b _ hbn hf1
   cases hfl : s.full with
   | true => exact H b lz (baseLive b hbn hb) hf0 L1.length s atS (setS_same _ _) hfl
   | false => exact Nat.lt_of_lt_of_le hbn (Nat.le_trans hnx (hfull hfl))
  ·rcases hI.fresh b r lz (f0_none b (by omega)) hf1 with h | ⟨b0, l0, h1, h2, i, s', h3, h4, h5, h6⟩
   ·omega
   ·have := H b0 l0 h1 h2 i s' h3 (hS' i h4) h5; omega
 ·intro b r lz hb hf
  have prev : f b = some (r, lz) → w0.heap.size ≤ r ∨ ∃ b0 lz0, (base.get b0).isSome = true ∧ f0 b0 = some (r, lz0) ∧ ∃ i s', At L i s' ∧ setS S L1.length i = true ∧ s'.full = true ∧ s'.post.low ≤ b0 := fun e => by
   rcases hI.fresh b r lz hb e with h | ⟨b0, l0, h1, h2, i, s', h3, h4, h5, h6⟩
   ·exact .inl h
   ·exact .inr ⟨b0, l0, h1, h2, i, s', h3, hS' i h4, h5, h6⟩
  by_cases h1 : b < s.pre.next
  ·rw [g_old b h1] at hf; exact prev hf
  ·by_cases h2 : b < s.post.next
   ·rw [g_lt b h2] at hf
    rcases hx.fresh b r lz (cut_ge (by omega)) hf with h | ⟨b0, l0, g1, g2, g3⟩
    ·exact .inl (Nat.le_trans hI.grow h)
    ·have g4 := cut_sub _ _ _ _ g2
     by_cases hbn : b0 < base.next
     ·have hfl : s.full = true := by
       cases e : s.full with
       | true => rfl
       | false => have := hfull e; omega
      exact .inr ⟨b0, l0, baseLive b0 hbn g1, hI.low b0 _ hbn g4, L1.length, s, atS, setS_same _ _, hfl, g3⟩
     ·rcases hI.fresh b0 r l0 (f0_none b0 (by omega)) g4 with h | ⟨b1, l1, h1, h2, i, s', h3, h4, h5, h6⟩
      ·exact .inl h
      ·exact .inr ⟨b1, l1, h1, h2, i, s', h3, hS' i h4, h5, h6⟩
   ·rw [g_ge b (by omega)] at hf; exact prev hf
 ·intro i s' ha hi
  by_cases e : i = L1.length
  ·have := ha.uniq hL e.symm
   subst this
   exact ⟨hx.kept, hx.dead, hx.low, hx.next, hr.live⟩
  ·rw [setS_other e] at hi; exact hI.dk i s' ha hi
 ·intro b hb hn
  have hd := hI.dead b hb hn
  by_cases ht : s.tch base.next b
  ·rcases ht.1 with h | h
   ·obtain ⟨o, ho⟩ := Option.isSome_iff_exists.1 h
    rw [hA b o ho] at hd; cases hd
   ·omega
  ·rw [hCn b ht]; exact hd
end
end Go.Can
namespace Go.Can
open Go
variable [Glob]
set_option linter.unusedSectionVars false

theorem At.get {L : List St} {i : Nat} {s : St} (h : At L i s) : i < L.length := by
 obtain ⟨L2, L1, rfl, rfl⟩ := h
 simp; omega
theorem At.of {L2 L1 : List St} {s : St} : At (L2 ++ s :: L1) L1.length s := ⟨L2, L1, rfl, rfl⟩
/-- one that is later than s -/
theorem At.later {L2a L2b L1 : List St} {s t : St} : At ((L2a ++ t :: L2b) ++ s :: L1) (L2b ++ s :: L1).length t := ⟨L2a, L2b ++ s :: L1, by simp, rfl⟩

theorem pick_congr {α : Type} {S S' : Nat → Bool} {p : St → Prop} {g : St → α} {d : α} : ∀ {L : List St}, (∀ La t Lb, L = La ++ t :: Lb → p t → S Lb.length = S' Lb.length) → pick S p g d L = pick S' p g d L
 | [], _ => rfl
 | s :: L, h => by
  have ih := pick_congr (S := S) (S' := S') (p := p) (g := g) (d := d) (L := L) fun La t Lb e hp => h (s :: La) t Lb (by rw [e]; rfl) hp
  have h0 := h [] s L rfl
  simp only [pick, ih]
  by_cases hp : p s
  ·rw [h0 hp]
  ·rw [if_neg (fun x => hp x.2), if_neg (fun x => hp x.2)]
theorem pick_cases {α : Type} {S : Nat → Bool} {p : St → Prop} {g : St → α} {d : α} (R : α → Prop) (hd : R d) : ∀ {L : List St}, (∀ t ∈ L, R (g t)) → R (pick S p g d L)
 | [], _ => hd
 | s :: L, h => by
  simp only [pick]
  split
  ·exact h s (by simp)
  ·exact pick_cases R hd fun t ht => h t (by simp [ht])

/-- what the evaluator has seen to, of a drawn region: bef i j: operation i comes after j in every order -/
structure Chain (P : Program) (ops : Array Oper) (base : CW) (tm0 : T Value) (nt : Nat) (bef : Nat → Nat → Bool) (L : List St) : Prop where
 len : L.length = ops.size
 op : ∀ i s, At L i s → ops[i]? = some s.o
 want : ∀ i s, At L i s → s.wanted = wantedB ops.toList s.o s.tm
 tmr1 : ∀ i s, At L i s → s.wanted = true → ∀ t, Operand.tmp t ∈ s.o.op.operands → undefd (s.tmr.get t) = undefd (s.tm.get t)
 tmr2 : ∀ i s, At L i s → s.wanted = true → ∀ t, Operand.tmp t ∉ s.o.op.operands → undefd (s.tmr.get t) = undef
 run : ∀ i s, At L i s → s.wanted = true → Jop P s.o s.tmr s.pre s.v s.post
 idle : ∀ i s, At L i s → s.wanted = false → s.v = undef ∧ s.post = s.pre ∧ ∀ b, s.pre.get b = none
 nx : ∀ i s, At L i s → base.next ≤ s.pre.next
 lim : ∀ i s, At L i s → base.next ≤ s.lim ∧ s.lim ≤ s.pre.next
 live : ∀ i s, At L i s → (∀ j t, At L j t → bef i j = true → DK t) → ∀ b, (s.pre.get b).isSome = true → b < s.pre.next
 order : ∀ L2 s L1, L = L2 ++ s :: L1 → ∀ t ∈ L1, t.post.next ≤ s.pre.next
 frag : ∀ L2 s L1, L = L2 ++ s :: L1 → ∀ S : Nat → Bool, (∀ j, bef L1.length j = true → S j = true) → (∀ j t, At L j t → bef L1.length j = true → DK t) → ∀ b o, s.pre.get b = some o → CS base S L1 b = some o
 apt : ∀ i s j t, At L i s → At L j t → i < j → (∀ k u, At L k u → bef i k = true ∨ bef j k = true → DK u) → ∀ b, s.has b → t.tch base.next b → bef j i = true
 tms : ∀ L2 s L1, L = L2 ++ s :: L1 → ∀ t, undefd (s.tm.get t) = CV tm0 (fun _ => true) L1 t
 pairs : ∀ i s j t, At L i s → At L j t → i < j → bef j i = true ∨ s.o.apart ops t.o = true
 dst : ∀ i s, At L i s → ∀ d, s.o.dst = some d → d < nt
 full : ∀ i s, At L i s → s.full = false → s.lim ≤ s.post.low
 closed : ∀ listed : Array Bool, (∀ i o, ops[i]? = some o → listed.getD i false = true → ∀ e ∈ o.after, Region.binds .any e = true → listed.getD e.on false = true) →
  ∀ i, i ∈ Region.ready .any ops listed → ∀ j, bef i j = true → listed.getD j false = true
 back : ∀ i o, ops[i]? = some o → ∀ e ∈ o.after, Region.binds .any e = true → e.on < i

section
variable {P : Program} {ops : Array Oper} {f0 : Mp} {base : CW} {tm0 : T Value} {nt : Nat} {a0 : Act} {w0 : World} {bef : Nat → Nat → Bool} {L : List St}

/-- what the operation about to be done looks at has come out as in the order of the text -/
theorem Chain.looks (hC : Chain P ops base tm0 nt bef L) {L2 L1 : List St} {s : St} (hL : L = L2 ++ s :: L1) {S : Nat → Bool} (hS : S L1.length = false) (hbef : ∀ j, bef L1.length j = true → S j = true)
  (hcl : ∀ j, S j = true → ∀ i, bef j i = true → S i = true) {t : Tmp} (ht : t ∈ s.o.looksAt ops) : CV tm0 S L t = undefd (s.tm.get t) ∧ BV base S L t ≤ s.pre.next := by
 subst hL
 have later : ∀ {α : Type} (g : St → α) (d : α), pick S (fun s => s.o.dst = some t) g d (L2 ++ s :: L1) = pick S (fun s => s.o.dst = some t) g d L1 := fun g d => by
  rw [pick_skip]
  ·simp only [pick]; rw [if_neg (fun x => by rw [hS] at x; cases x.1)]
  ·intro L2a u L2b e hu hd
   subst e
   rcases hC.pairs _ s _ u At.of At.later (by simp; omega) with h | h
   ·have := hcl _ hu _ h; rw [hS] at this; cases this
   ·exact (Oper.apart_spec h).2.2 t hd ht
 constructor
 ·unfold CV
  rw [later, hC.tms L2 s L1 rfl t]
  refine pick_congr fun La u Lb e hd => ?_
  subst e
  have hu : At (L2 ++ s :: (La ++ u :: Lb)) Lb.length u := ⟨L2 ++ s :: La, Lb, by simp, rfl⟩
  rcases hC.pairs _ u _ s hu At.of (by simp; omega) with h | h
  ·exact hbef _ h
  ·exact ((Oper.apart_spec h).1 t hd ht).elim
 ·unfold BV
  rw [later]
  exact pick_cases (fun n => n ≤ s.pre.next) (hC.nx _ s At.of) fun u hu => hC.order L2 s L1 rfl u hu

theorem Chain.bound (hC : Chain P ops base tm0 nt bef L) {L2 L1 : List St} {s : St} (hL : L = L2 ++ s :: L1) {S : Nat → Bool} (hS : S L1.length = false) (hbef : ∀ j, bef L1.length j = true → S j = true)
  (hcl : ∀ j, S j = true → ∀ i, bef j i = true → S i = true) (hdS : ∀ j t, At L j t → S j = true → DK t) {b : Nat} (hb : s.has b) {α : Type} (g : St → α) (d : α) :
  pick S (fun s => s.tch base.next b) g d L = pick S (fun s => s.tch base.next b) g d L1 := by
 subst hL
 rw [pick_skip]
 ·simp only [pick]; rw [if_neg (fun x => by rw [hS] at x; cases x.1)]
 ·intro L2a u L2b e hu ht
  subst e
  have := hcl _ hu _ (hC.apt _ s _ u At.of At.later (by simp; omega) (fun k v hv hk => hdS k v hv (hk.elim (hbef k) (hcl _ hu _))) b hb ht)
  rw [hS] at this; cases this

open Classical in
noncomputable def restr (o : Oper) (nt : Nat) (a : Act) : Act := { a with tmps := Array.ofFn fun t : Fin nt => if Operand.tmp t.1 ∈ o.op.operands then a.tmps.getD t.1 undef else undef }
theorem restr_get (o : Oper) (nt : Nat) (a : Act) (t : Tmp) : (restr o nt a).tmps.getD t undef = if t < nt then (open Classical in if Operand.tmp t ∈ o.op.operands then a.tmps.getD t undef else undef) else undef := by
 unfold restr
 rw [Array.getD_eq_getD_getElem?, Array.getElem?_ofFn]
 by_cases ht : t < nt
 ·rw [dif_pos ht, if_pos ht]; rfl
 ·rw [dif_neg ht, if_neg ht]; rfl
theorem restr_eval {o : Oper} {a : Act} (hs : a.tmps.size = nt) : ∀ x ∈ o.op.operands, a.eval x = (restr o nt a).eval x := by
 intro x hx
 cases x with
 | tmp t =>
  show a.tmps.getD t undef = (restr o nt a).tmps.getD t undef
  rw [restr_get, if_pos hx]
  by_cases ht : t < nt
  ·rw [if_pos ht]
  ·rw [if_neg ht]; simp [Array.getD, hs, ht]
 | _ => rfl

/-- one operation, at any time at which it may come up -/
theorem Chain.one (hC : Chain P ops base tm0 nt bef L) (hns : Region.noSelect ops = true) {i : Nat} {s : St} (ha : At L i s) {S : Nat → Bool} {f : Mp} {a : Act} {w : World} (hI : Inv f0 base tm0 nt a0 w0 L S f a w) (h0 : HR f0 base w0) (hS : S i = false) (hbef : ∀ j, bef i j = true → S j = true)
  (hcl : ∀ j, S j = true → ∀ i, bef j i = true → S i = true) {rd : Option Nat} {Q : Exit → Act → World → Prop} {K : Act → World → Prop}
  (hK : ∀ f' a' w', Inv f0 base tm0 nt a0 w0 L (setS S i) f' a' w' → K a' w') : wpOpIn (FW rd) 0 P ops Q i K a w := by
 obtain ⟨L2, L1, hL, hi⟩ := ha
 subst hi
 have ha : At L L1.length s := ⟨L2, L1, hL, rfl⟩
 have ho := hC.op _ s ha
 have hlooks : ∀ t, t ∈ s.o.looksAt ops → VR (cut f s.pre.next) (undefd (s.tm.get t)) (a.tmps.getD t undef) := fun t ht => by
  obtain ⟨e1, e2⟩ := hC.looks hL hS hbef hcl ht
  rw [← e1]
  exact (hI.tmp t).mono (cut_mono f e2)
 have hw : Region.wanted s.o (yielded ops a.tmps) = s.wanted := by
  rw [hC.want _ s ha]
  refine wantedB_ok (f := f) fun j want g d hg hj hd => (hlooks d ?_).mono (cut_sub _ _)
  exact List.mem_append_right _ (by rw [hg]; simp [hj, hd])
 have hdk : ∀ j t, At L j t → bef L1.length j = true → DK t := fun j t hat hb => hI.dk j t hat (hbef j hb)
 have hA : ∀ b o, s.pre.get b = some o → CS base S L b = some o := fun b o hb => by
  unfold CS
  rw [hC.bound hL hS hbef hcl hI.dk (.inl (by rw [hb]; rfl))]
  exact hC.frag L2 s L1 hL S hbef hdk b o hb
 have hB : ∀ b, (s.pre.get b).isSome = true → BdS base S L b ≤ s.pre.next := fun b hb => by
  unfold BdS
  rw [hC.bound hL hS hbef hcl hI.dk (.inl hb)]
  exact pick_cases (fun n => n ≤ s.pre.next) (hC.nx _ s ha) fun u hu => hC.order L2 s L1 hL u hu
 have hpre : HR (cut f s.pre.next) s.pre w := GR.frag hI.gr hA (hC.live _ s ha hdk) hB (Nat.le_trans h0.num_le (hC.nx _ s ha))
 have step : ∀ {f' : Mp} {u : Value} {w' : World}, HR f' s.post w' → Ext (cut f s.pre.next) s.pre w f' s.post w' → VR f' s.v u → K (a.put s.o.dst u) w' := fun {f' u w'} hr hx hu => by
  refine hK _ _ _ (hI.step hL hS h0 (hC.lim _ s ha).1 (hC.lim _ s ha).2 (hC.live _ s ha hdk) hA hB ?_ ?_ ?_ (hC.full _ s ha) hr hx hu)
  ·intro b hb L2a t L2b e ht htch
   subst e; subst hL
   have := hcl _ ht _ (hC.apt _ s _ t At.of At.later (by simp; omega) (fun k v hv hk => hI.dk k v hv (hk.elim (hbef k) (hcl _ ht _))) b hb htch)
   rw [hS] at this; cases this
  ·intro d hd
   refine ⟨hC.dst _ s ha d hd, fun L2a t L2b e ht hdt => ?_⟩
   subst e; subst hL
   rcases hC.pairs _ s _ t At.of At.later (by simp; omega) with h | h
   ·have := hcl _ ht _ h; rw [hS] at this; cases this
   ·exact (Oper.apart_spec h).2.1 d hd hdt
  ·intro j t hat hj
   obtain ⟨M2, M1, hM, rfl⟩ := hat
   rcases Nat.lt_trichotomy M1.length L1.length with h | h | h
   ·left
    refine hC.order L2 s L1 hL t ?_
    rw [hL] at hM
    have e2 := congrArg (fun l => l.drop (L2 ++ [s]).length) hM
    have e3 : (L2 ++ s :: L1).drop (L2 ++ [s]).length = L1 := by
     have : L2 ++ s :: L1 = (L2 ++ [s]) ++ L1 := by simp
     rw [this, List.drop_left]
    have hlen := congrArg List.length hM
    simp at hlen
    have e4 : (M2 ++ t :: M1).drop (L2 ++ [s]).length = M2.drop (L2 ++ [s]).length ++ t :: M1 := by
     rw [List.drop_append_of_le_length (by simp; omega)]
    rw [e3, e4] at e2
    rw [e2]; simp
   ·exfalso
    rw [h] at hj; rw [hS] at hj; cases hj
   ·right
    refine hC.order M2 t M1 hM s ?_
    rw [hL] at hM
    have e2 := congrArg (fun l => l.drop (M2 ++ [t]).length) hM
    have e3 : (M2 ++ t :: M1).drop (M2 ++ [t]).length = M1 := by
     have : M2 ++ t :: M1 = (M2 ++ [t]) ++ M1 := by simp
     rw [this, List.drop_left]
    have hlen := congrArg List.length hM
    simp at hlen
    have e4 : (L2 ++ s :: L1).drop (M2 ++ [t]).length = L2.drop (M2 ++ [t]).length ++ s :: L1 := by
     rw [List.drop_append_of_le_length (by simp; omega)]
    rw [e3, e4] at e2
    rw [← e2]; simp
 unfold wpOpIn
 rw [ho]
 dsimp only
 rw [hw]
 cases hwt : s.wanted with
 | false =>
  obtain ⟨e1, e2, e3⟩ := hC.idle _ s ha hwt
  simp only [Bool.false_eq_true, if_false]
  exact ⟨fun _ _ => trivial, step (by rw [e2]; exact hpre) (by rw [e2]; exact Ext.refl _ _ _) (by rw [e1]; exact .tuple .nil)⟩
 | true =>
  simp only [if_true]
  have hj := hC.run _ s ha hwt
  refine wpIn_of_next hj.1 ?_
  rw [execOp_congr (ρ' := (restr s.o nt a).eval) s.o (fun cs b => Region.noSelect_spec hns _ _ cs b ho) (restr_eval hI.size)]
  refine hj.2 (cut f s.pre.next) nt (restr s.o nt a) w ⟨by simp [restr], fun t => ?_, hpre.glob⟩ hpre _ fun f' v' w' h1 h2 h3 => step h1 h2 h3
  rw [restr_get]
  by_cases hop : Operand.tmp t ∈ s.o.op.operands
  ·rw [if_pos hop, hC.tmr1 _ s ha hwt t hop]
   have h1 := hlooks t (List.mem_append_left _ (List.mem_filterMap.2 ⟨.tmp t, by simpa using hop, rfl⟩))
   by_cases ht : t < nt
   ·rw [if_pos ht]; exact h1
   ·rw [if_neg ht]
    have : a.tmps.getD t undef = undef := by simp [Array.getD, hI.size, ht]
    rwa [this] at h1
  ·rw [if_neg hop, hC.tmr2 _ s ha hwt t hop]
   split <;> exact .tuple .nil
end
end Go.Can
namespace Go.Can
open Go
variable [Glob]
set_option linter.unusedSectionVars false

theorem countP_lt' {p q : Nat → Bool} (h : ∀ j, q j = true → p j = true) {i : Nat} (hp : p i = true) (hq : q i = false) : ∀ {l : List Nat}, i ∈ l → l.countP q < l.countP p
 | [], hi => by cases hi
 | x :: l, hi => by
  have hle : l.countP q ≤ l.countP p := List.countP_mono_left fun j _ => h j
  simp only [List.countP_cons]
  rcases List.mem_cons.1 hi with rfl | hi
  ·rw [hp, hq]; simp; omega
  ·have := countP_lt' h hp hq hi
   by_cases hx : q x = true
   ·rw [hx, h x hx]; simp; omega
   ·have hx : q x = false := by simpa using hx
    rw [hx]
    cases p x <;> simp <;> omega

section
variable {P : Program} {ops : Array Oper} {f0 : Mp} {base : CW} {tm0 : T Value} {nt : Nat} {a0 : Act} {w0 : World} {bef : Nat → Nat → Bool} {L : List St}

def doneS (listed : Array Bool) : Nat → Bool := fun j => listed.getD j false
def left (n : Nat) (listed : Array Bool) : Nat := (List.range n).countP fun j => !doneS listed j
theorem doneS_set {listed : Array Bool} {i : Nat} (hi : i < listed.size) : doneS (listed.setIfInBounds i true) = setS (doneS listed) i := by
 funext j
 unfold doneS setS
 by_cases e : j = i
 ·subst e; simp [hi]
 ·rw [if_neg e]; exact getD_set_ne false (Ne.symm e)

theorem Chain.any (hC : Chain P ops base tm0 nt bef L) (hns : Region.noSelect ops = true) (h0 : HR f0 base w0) {rd : Option Nat} {Q : Exit → Act → World → Prop}
  (hQ : ∀ S f a w, (∀ i, i < ops.size → S i = true) → Inv f0 base tm0 nt a0 w0 L S f a w → Q .normal a w) :
  ∀ (fuel : Nat) (listed : Array Bool) (f : Mp) (a : Act) (w : World), listed.size = ops.size → left ops.size listed ≤ fuel →
   (∀ i o, ops[i]? = some o → listed.getD i false = true → ∀ e ∈ o.after, Region.binds .any e = true → listed.getD e.on false = true) →
   (∀ j, doneS listed j = true → ∀ i, bef j i = true → doneS listed i = true) → Inv f0 base tm0 nt a0 w0 L (doneS listed) f a w → wpAnyIn (FW rd) 0 P .any ops Q fuel listed a w := by
 -- none is ready: all are done
 have all : ∀ listed : Array Bool, listed.size = ops.size → Region.ready .any ops listed = [] → ∀ i, i < ops.size → doneS listed i = true := by
  intro listed hsz hr i
  induction i using Nat.strongRecOn with
  | _ i ih =>
   intro hi
   cases e : doneS listed i with
   | true => rfl
   | false =>
    exfalso
    obtain ⟨o, ho⟩ : ∃ o, ops[i]? = some o := ⟨ops[i], by simp [hi]⟩
    have : i ∈ Region.ready .any ops listed := by
     refine mem_ready.2 ⟨?_, o, ho, fun e' he hb => ih e'.on (hC.back i o ho e' he hb) (by have := hC.back i o ho e' he hb; omega)⟩
     have : listed.getD i true = listed.getD i false := by simp [Array.getD, hsz, hi]
     rw [this]; exact e
    rw [hr] at this; cases this
 intro fuel
 induction fuel with
 | zero =>
  intro listed f a w hsz hleft hcl1 hcl2 hI
  have hall : ∀ i, i < ops.size → doneS listed i = true := fun i hi => by
   have h1 : left ops.size listed = 0 := by omega
   have := List.countP_eq_zero.1 h1 i (List.mem_range.2 hi)
   simpa using this
  refine ⟨?_, hQ _ f a w hall hI⟩
  cases hr : Region.ready .any ops listed with
  | nil => rfl
  | cons i l =>
   exfalso
   have hm : i ∈ Region.ready .any ops listed := by rw [hr]; simp
   obtain ⟨h1, o, h2, _⟩ := mem_ready.1 hm
   have hlt := (Array.getElem?_eq_some_iff.1 h2).1
   have h3 := hall i hlt
   unfold doneS at h3
   have : listed.getD i true = listed.getD i false := by simp [Array.getD, hsz, hlt]
   rw [this, h3] at h1; cases h1
 | succ fuel ih =>
  intro listed f a w hsz hleft hcl1 hcl2 hI
  refine ⟨fun hr => hQ _ f a w (all listed hsz hr) hI, fun i hi => ?_⟩
  obtain ⟨h1, o, h2, h3⟩ := mem_ready.1 hi
  have hlt := (Array.getElem?_eq_some_iff.1 h2).1
  have hS : doneS listed i = false := by
   unfold doneS
   have : listed.getD i true = listed.getD i false := by simp [Array.getD, hsz, hlt]
   rw [← this]; exact h1
  have hbef : ∀ j, bef i j = true → doneS listed j = true := hC.closed listed hcl1 i hi
  obtain ⟨s, ha⟩ : ∃ s, At L i s := by
   have hl : i < L.length := by rw [hC.len]; exact hlt
   refine ⟨L[L.length - 1 - i], L.take (L.length - 1 - i), L.drop (L.length - 1 - i + 1), ?_, by simp; omega⟩
   rw [List.getElem_cons_drop]; simp
  refine hC.one hns ha hI h0 hS hbef hcl2 fun f' a' w' hI' => ?_
  have hset := doneS_set (listed := listed) (i := i) (by omega)
  refine ih (listed.setIfInBounds i true) f' a' w' (by simp [hsz]) ?_ ?_ ?_ (by rw [hset]; exact hI')
  ·have : left ops.size (listed.setIfInBounds i true) < left ops.size listed := by
    unfold left
    refine countP_lt' (fun j hj => ?_) (by rw [hS]; rfl) (by rw [hset, setS_same]; rfl) (List.mem_range.2 hlt)
    rw [hset] at hj
    by_cases e : j = i
    ·subst e; rw [hS]; rfl
    ·rwa [setS_other e] at hj
   omega
  ·intro j o' hj hd e he hb
   by_cases e1 : j = i
   ·subst e1
    rw [h2] at hj; cases hj
    exact getD_set_true (h3 e he hb)
   ·rw [show (listed.setIfInBounds i true).getD j false = listed.getD j false from getD_set_ne false (Ne.symm e1)] at hd
    exact getD_set_true (hcl1 j o' hj hd e he hb)
  ·intro j hd k hk
   rw [hset] at hd ⊢
   by_cases e2 : k = i
   ·rw [e2]; exact setS_same _ _
   ·rw [setS_other e2]
    by_cases e1 : j = i
    ·subst e1; exact hbef k hk
    ·rw [setS_other e1] at hd; exact hcl2 j hd k hk
end
end Go.Can
namespace Go.Can
open Go
variable [Glob]
set_option linter.unusedSectionVars false

theorem pick_none {α : Type} {S : Nat → Bool} {p : St → Prop} {g : St → α} {d : α} (h : ∀ j, S j = false) : ∀ {L : List St}, pick S p g d L = d
 | [] => rfl
 | s :: L => by
  simp only [pick]
  rw [if_neg (fun x => by rw [h] at x; cases x.1)]
  exact pick_none h
theorem HR.cut_eq {f : Mp} {c : CW} {w : World} (h : HR f c w) : cut f c.next = f := by
 funext b
 by_cases hb : b < c.next
 ·exact cut_lt hb
 ·rw [cut_ge (by omega), h.fresh (by omega)]

/-- how the evaluation of a drawn region ended -/
structure Ends (base : CW) (tm0 : T Value) (L : List St) (tm' : T Value) (c' : CW) : Prop where
 tms : ∀ t, undefd (tm'.get t) = CV tm0 (fun _ => true) L t
 ord : ∀ i t, At L i t → t.post.next ≤ c'.next
 next : base.next ≤ c'.next
 heap : ∀ S : Nat → Bool, (∀ i, i < L.length → S i = true) → (∀ j t, At L j t → DK t) → ∀ b o, c'.get b = some o → CS base S L b = some o
 live : (∀ j t, At L j t → DK t) → ∀ b, (c'.get b).isSome = true → b < c'.next
 low : (∀ j t, At L j t → DK t) → c'.low ≤ base.low ∧ ∀ i t, At L i t → t.full = true → c'.low ≤ t.post.low
 kept : (∀ j t, At L j t → DK t) → ∀ b, b < base.next → b < c'.low → c'.get b = base.get b
 dead : (∀ j t, At L j t → DK t) → ∀ b, b < base.next → base.get b = none → c'.get b = none

theorem drawn_code {P : Program} (hP : Fair P) {ops : Array Oper} {base c' : CW} {tm0 tm' : T Value} {nt : Nat} {bef : Nat → Nat → Bool} {L : List St} (hC : Chain P ops base tm0 nt bef L) (hns : Region.noSelect ops = true) (hE : Ends base tm0 L tm' c')
  (id : Nat) (rd : Option Nat) (ds : List CDef) : Jcode P rd nt (.region id ops true) tm0 ds base .normal tm' ds c' := by
 intro f a w rd' hrd ht hd hh Q hQ
 refine wpIn_region_any hP.mixed ?_
 have h0 : HR f base { w with drawn := w.drawn + 1 } := hh.drawn _
 have hz : ∀ j, doneS (Array.replicate ops.size false) j = false := fun j => by
  unfold doneS
  rw [Array.getD_eq_getD_getElem?, Array.getElem?_replicate]
  split <;> rfl
 refine hC.any (f0 := f) (a0 := a) (w0 := { w with drawn := w.drawn + 1 }) hns h0 ?_ ops.size _ f a _ (by simp) ?_ ?_ ?_ ?_
 ·intro S f' a' w' hS hI
  have hdk : ∀ j t, At L j t → DK t := fun j t hat => hI.dk j t hat (hS j (by have := hat.get; rw [hC.len] at this; exact this))
  have hheap := hE.heap S (fun i hi => hS i (by rw [hC.len] at hi; exact hi)) hdk
  obtain ⟨hlow1, hlow2⟩ := hE.low hdk
  have someOf : ∀ b, (c'.get b).isSome = true → (CS base S L b).isSome = true := fun b hb => by
   obtain ⟨o, ho⟩ := Option.isSome_iff_exists.1 hb
   rw [hheap b o ho]; rfl
  refine hQ f' a' w' ⟨hI.size, fun t => ?_, hI.gr.glob⟩ (by rw [hI.defs]; exact hd.mono hI.sub) ⟨?_, ?_, ?_, hE.live hdk, hI.gr.glob⟩ (Ext.drawn (w.drawn + 1) ⟨hI.sub, ?_, hE.next, hlow1, hI.grow, hI.tape, hI.os, hI.output, ?_, ?_, hE.kept hdk, hE.dead hdk⟩)
  ·have e1 : CV tm0 S L t = undefd (tm'.get t) := by
    rw [hE.tms t]
    unfold CV
    refine pick_congr fun La u Lb e _ => ?_
    have : Lb.length < L.length := by rw [e]; simp; omega
    exact hS _ (by rw [hC.len] at this; exact this)
   rw [← e1]
   exact (hI.tmp t).mono (cut_sub _ _)
  ·exact fun b1 b2 r l1 l2 h1 h2 => hI.gr.inj b1 b2 r l1 l2 (someOf b1 h1) (someOf b2 h2)
  ·intro b o r lz e1 e2
   obtain ⟨o', g1, g2⟩ := hI.gr.obj b o r lz (hheap b o e1) e2
   exact ⟨o', g1, g2.mono (cut_sub _ _)⟩
  ·intro b r lz e
   refine ⟨hI.gr.lt b r lz e, ?_⟩
   by_cases hb : b < base.next
   ·exact Nat.lt_of_lt_of_le hb hE.next
   ·obtain ⟨i, s, ha, _, _, h2⟩ := hI.own b _ (by omega) e
    exact Nat.lt_of_lt_of_le h2 (hE.ord i s ha)
  ·intro b x e
   by_cases hb : b < base.next
   ·exact .inl (hI.low b x hb e)
   ·exact .inr (by omega)
  ·intro r hr H
   refine hI.old r hr fun b lz hb hf i s ha _ hfl => ?_
   exact Nat.lt_of_lt_of_le (H b lz hb hf) (hlow2 i s ha hfl)
  ·intro b r lz hb hf
   rcases hI.fresh b r lz hb hf with h | ⟨b0, l0, h1, h2, i, s, h3, _, h5, h6⟩
   ·exact .inl h
   ·exact .inr ⟨b0, l0, h1, h2, Nat.le_trans (hlow2 i s h3 h5) h6⟩
 ·unfold left
  exact Nat.le_trans List.countP_le_length (by simp)
 ·intro i o _ h
  have := hz i; unfold doneS at this; rw [this] at h; cases h
 ·intro j h; rw [hz j] at h; cases h
 ·have e1 : ∀ b, CS base (doneS (Array.replicate ops.size false)) L b = base.get b := fun b => pick_none hz
  have e2 : ∀ b, BdS base (doneS (Array.replicate ops.size false)) L b = base.next := fun b => pick_none hz
  have e3 : ∀ t, CV tm0 (doneS (Array.replicate ops.size false)) L t = undefd (tm0.get t) := fun t => pick_none hz
  have e4 : ∀ t, BV base (doneS (Array.replicate ops.size false)) L t = base.next := fun t => pick_none hz
  refine ⟨⟨?_, ?_, ?_, hh.glob⟩, Sub.refl f, fun _ _ _ e => e, ?_, ht.size, fun t => ?_, rfl, Nat.le_refl _, rfl, rfl, rfl, fun _ _ _ => rfl, ?_, ?_, ?_⟩
  ·intro b1 b2 r l1 l2 h1 h2; rw [e1] at h1 h2; exact h0.inj b1 b2 r l1 l2 h1 h2
  ·intro b o r lz h1 h2
   rw [e1] at h1
   rw [e2, hh.cut_eq]
   exact h0.obj b o r lz h1 h2
  ·intro b r lz e; exact (h0.dom b r lz e).1
  ·intro b x hb e
   have := (hh.dom b x.1 x.2 e).2; omega
  ·rw [e4, e3, hh.cut_eq]; exact ht.get t
  ·intro b r lz hb e; rw [hb] at e; cases e
  ·intro i s _ h; rw [hz i] at h; cases h
  ·intro b _ h; rw [e1]; exact h
end Go.Can
