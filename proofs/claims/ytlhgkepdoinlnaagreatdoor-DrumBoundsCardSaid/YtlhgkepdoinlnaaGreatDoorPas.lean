/- A part of the proof: see the last file. -/
import Derived.Test.YtlhgkepdoinlnaaGreatDoorPar
import Derived.Below
set_option linter.unusedVariables false
set_option linter.unusedSimpArgs false
set_option linter.unusedSectionVars false
namespace Go.Can
open Go
variable [Glob]
set_option linter.unusedSectionVars false

/-! ### Calls that were run before -/
noncomputable section
def addrEq (a b : Option Addr) : Bool := match a, b with
 | none, none => true
 | some ⟨x, o, none⟩, some ⟨y, p, none⟩ => Nat.beq x y && Nat.beq o p
 | _, _ => false
def bytesEq : List UInt8 → List UInt8 → Bool
 | [], [] => true
 | x :: l, y :: m => match Nat.beq x.toNat y.toNat with
  | true => bytesEq l m
  | false => false
 | _, _ => false
theorem bytesEq_ok : ∀ {l m : List UInt8}, bytesEq l m = true → l = m
 | [], [], _ => rfl
 | x :: l, y :: m, h => by
  simp only [bytesEq] at h
  split at h
  ·next hx => rw [UInt8.toNat_inj.1 (Nat.eq_of_beq_eq_true hx), bytesEq_ok h]
  ·cases h
 | [], _ :: _, h => by simp [bytesEq] at h
 | _ :: _, [], h => by simp [bytesEq] at h
def valEq : Nat → Value → Value → Bool
 | 0, _, _ => false
 | n+1, a, b => match a, b with
  | .bool x, .bool y => decide (x = y)
  | .int k x, .int l y => decide (k = l) && decide (x = y)
  | .string x, .string y => bytesEq x.data.toList y.data.toList
  | .pointer p, .pointer q => addrEq p q
  | .slice p l c, .slice q m d => addrEq p q && (Nat.beq l m && Nat.beq c d)
  | .nilIface, .nilIface => true
  | .nilFunc, .nilFunc => true
  | .agg x, .agg y => go n x.toList y.toList
  | .tuple x, .tuple y => go n x.toList y.toList
  | _, _ => false
where go (n : Nat) : List Value → List Value → Bool
 | [], [] => true
 | x :: l, y :: m => valEq n x y && go n l m
 | _, _ => false
theorem addrEq_ok {a b : Option Addr} (h : addrEq a b = true) : a = b := by
 unfold addrEq at h
 split at h
 ·rfl
 ·simp only [Bool.and_eq_true] at h
  rw [Nat.eq_of_beq_eq_true h.1, Nat.eq_of_beq_eq_true h.2]
 ·cases h
theorem valEq_go {n : Nat} (ih : ∀ a b, valEq n a b = true → a = b) : ∀ (l m : List Value), valEq.go n l m = true → l = m
 | [], [], _ => rfl
 | x :: l, y :: m, h => by
  simp only [valEq.go, Bool.and_eq_true] at h
  rw [ih x y h.1, valEq_go ih l m h.2]
 | [], _ :: _, h => by simp [valEq.go] at h
 | _ :: _, [], h => by simp [valEq.go] at h
theorem valEq_ok : ∀ (n : Nat) (a b : Value), valEq n a b = true → a = b
 | 0, a, b, h => by simp [valEq] at h
 | n+1, a, b, h => by
  have ih := valEq_ok n
  unfold valEq at h
  split at h <;> first | rfl | (cases h; done) | skip
  ·rw [of_decide_eq_true h]
  ·simp only [Bool.and_eq_true] at h
   rw [of_decide_eq_true h.1, of_decide_eq_true h.2]
  ·next x y =>
   have := bytesEq_ok h
   obtain ⟨⟨x⟩⟩ := x
   obtain ⟨⟨y⟩⟩ := y
   dsimp only at this
   subst this; rfl
  ·rw [addrEq_ok h]
  ·simp only [Bool.and_eq_true] at h
   rw [addrEq_ok h.1, Nat.eq_of_beq_eq_true h.2.1, Nat.eq_of_beq_eq_true h.2.2]
  ·have := valEq_go ih _ _ h
   rw [Array.toList_inj.1 this]
  ·have := valEq_go ih _ _ h
   rw [Array.toList_inj.1 this]
def looseEq (a b : Option Nat) : Bool := match a, b with
 | none, none => true
 | some x, some y => Nat.beq x y
 | _, _ => false
theorem looseEq_ok {a b : Option Nat} (h : looseEq a b = true) : a = b := by
 unfold looseEq at h
 split at h
 ·rfl
 ·rw [Nat.eq_of_beq_eq_true h]
 ·cases h
def objEq (a b : CObj) : Bool := match a, b with
 | .cells l e (f1, f2) lo, .cells l' e' (g1, g2) lo' => valEq.go 20 l l' && (Nat.beq e e' && (Nat.beq f1 g1 && (Nat.beq f2 g2 && looseEq lo lo')))
 | _, _ => false
theorem objEq_ok {a b : CObj} (h : objEq a b = true) : a = b := by
 unfold objEq at h
 split at h
 ·simp only [Bool.and_eq_true] at h
  obtain ⟨h1, h2, h3, h4, h5⟩ := h
  rw [valEq_go (valEq_ok 20) _ _ h1, Nat.eq_of_beq_eq_true h2, Nat.eq_of_beq_eq_true h3, Nat.eq_of_beq_eq_true h4, looseEq_ok h5]
 ·cases h

/-- a call that was run before: on what part of the heap, to what -/
structure Memo where
 g : FuncId
 args : List Value
 frag : List (Nat × CObj)
 next : Nat
 v : Value
 frag' : List (Nat × CObj)
 next' : Nat
structure MemoOk (P : Program) (m : Memo) : Prop where
 ex : ∃ c c', Jcall P m.g m.args c m.v c' ∧ c.next = m.next ∧ (∀ b o, c.get b = some o → (b, o) ∈ m.frag ∧ b < m.next) ∧ c'.next = m.next' ∧ m.next ≤ c'.low ∧ ∀ b o, (b, o) ∈ m.frag' → c'.get b = some o ∧ m.next ≤ b

def putsK : List (Nat × CObj) → T CObj → (T CObj → Bool) → Bool
 | [], h, k => k h
 | (b, o) :: l, h, k => T.put (some o) 64 h b fun h => putsK l h k
theorem putsK_ok : ∀ {l : List (Nat × CObj)} {h : T CObj} {k : T CObj → Bool}, putsK l h k = true → ∃ h', k h' = true ∧ (∀ b o, h'.get b = some o → h.get b = some o ∨ (b, o) ∈ l) ∧ (∀ b, (∀ o, (b, o) ∉ l) → h'.get b = h.get b)
 | [], h, k, e => ⟨h, e, fun _ _ g => .inl g, fun _ _ => rfl⟩
 | (b, o) :: l, h, k, e => by
  simp only [putsK] at e
  obtain ⟨h1, e1, e2⟩ := T.put_ok e
  obtain ⟨h2, e3, e4, e5⟩ := putsK_ok e1
  refine ⟨h2, e3, fun j o' hb => ?_, fun j hj => ?_⟩
  ·rcases e4 j o' hb with h3 | h3
   ·rw [e2] at h3
    by_cases hbg : j = b
    ·rw [if_pos hbg] at h3; cases h3; subst hbg; exact .inr (by simp)
    ·rw [if_neg hbg] at h3; exact .inl h3
   ·exact .inr (by simp [h3])
  ·rw [e5 j fun o' ho => hj o' (by simp [ho]), e2, if_neg (fun e => hj o (by simp [e]))]
def belowK (n : Nat) : List (Nat × CObj) → Bool
 | [] => true
 | (b, _) :: l => match Nat.ble (b+1) n with
  | true => belowK n l
  | false => false
theorem belowK_ok {n : Nat} : ∀ {l : List (Nat × CObj)}, belowK n l = true → ∀ b o, (b, o) ∈ l → b < n
 | [], _, b, o, h => by cases h
 | (x, _) :: l, h, b, o, hb => by
  simp only [belowK] at h
  split at h
  ·next hx =>
   rcases List.mem_cons.1 hb with e | e
   ·cases e; exact Nat.le_of_ble_eq_true hx
   ·exact belowK_ok h b o e
  ·cases h
def holdsK (n : Nat) (c : CW) : List (Nat × CObj) → Bool
 | [] => true
 | (b, o) :: l => match c.get b with
  | some o' => match objEq o' o && Nat.ble n b with
   | true => holdsK n c l
   | false => false
  | none => false
theorem holdsK_ok {n : Nat} {c : CW} : ∀ {l : List (Nat × CObj)}, holdsK n c l = true → ∀ b o, (b, o) ∈ l → c.get b = some o ∧ n ≤ b
 | [], _, b, o, h => by cases h
 | (x, y) :: l, h, b, o, hb => by
  simp only [holdsK] at h
  split at h
  ·next o' ho' =>
   split at h
   ·next hx =>
    simp only [Bool.and_eq_true] at hx
    rcases List.mem_cons.1 hb with e | e
    ·cases e; exact ⟨by rw [ho', objEq_ok hx.1], Nat.le_of_ble_eq_true hx.2⟩
    ·exact holdsK_ok h b o e
   ·cases h
  ·cases h
def pickM (g : FuncId) (n : Nat) : List Memo → Option Memo
 | [] => none
 | m :: l => match Nat.beq m.next n && Nat.beq m.g g with
  | true => some m
  | false => pickM g n l
theorem pickM_ok {g : FuncId} {n : Nat} : ∀ {l : List Memo} {m : Memo}, pickM g n l = some m → m ∈ l ∧ m.next = n ∧ m.g = g
 | [], m, h => by cases h
 | x :: l, m, h => by
  simp only [pickM] at h
  split at h
  ·next hx =>
   simp only [Bool.and_eq_true] at hx
   cases h
   exact ⟨by simp, Nat.eq_of_beq_eq_true hx.1, Nat.eq_of_beq_eq_true hx.2⟩
  ·obtain ⟨h1, h2⟩ := pickM_ok h
   exact ⟨by simp [h1], h2⟩
def memoK (m : Memo) (args : List Value) (c : CW) (k : K) : Bool := match valEq.go 20 args m.args && holdsK 0 c m.frag with
 | true => match c with
  | ⟨h, _, lo⟩ => putsK m.frag' h fun h => k .ret m.v .nil [] ⟨h, m.next', lo⟩
 | false => false
def goM (P : Program) (ms : List Memo) (r : Rec) : Rec := fun task tm ds c k => match task with
 | .code rd nt cd => goCode P r rd nt cd tm ds c k
 | .more t => match t with
  | .call g args => match pickM g c.next ms with
   | some m => memoK m args c k
   | none => goCall P r g args c k
  | t => goMore P r t tm ds c k

theorem memoK_ok {P : Program} {m : Memo} (hm : MemoOk P m) {args : List Value} {c : CW} {k : K} (hn : m.next = c.next) (h : memoK m args c k = true) :
  ∃ e v tm' ds' c', k e v tm' ds' c' = true ∧ Jcall P m.g args c v c' := by
 unfold memoK at h
 split at h
 ·next he =>
  simp only [Bool.and_eq_true] at he
  have ha : args = m.args := valEq_go (valEq_ok 20) _ _ he.1
  have hfr := holdsK_ok he.2
  obtain ⟨hp, nx, lo⟩ := c
  dsimp only at h hn
  obtain ⟨h', g1, g2, g3⟩ := putsK_ok h
  refine ⟨_, _, _, _, _, g1, ?_⟩
  obtain ⟨d, d', hj, e1, e2, e3, e4, e5⟩ := hm.ex
  subst ha
  refine ⟨hj.1, fun f w args' hl hh K hK => ?_⟩
  have hd : HR f d w := ⟨fun b1 b2 r l1 l2 h1 h2 => by
    obtain ⟨o1, q1⟩ := Option.isSome_iff_exists.1 h1
    obtain ⟨o2, q2⟩ := Option.isSome_iff_exists.1 h2
    exact hh.inj b1 b2 r l1 l2 (by rw [(hfr b1 o1 (e2 b1 o1 q1).1).1]; rfl) (by rw [(hfr b2 o2 (e2 b2 o2 q2).1).1]; rfl),
   fun b o r lz q hf => hh.obj b o r lz (hfr b o (e2 b o q).1).1 hf,
   fun b r lz hf => by have := hh.dom b r lz hf; exact ⟨this.1, by rw [e1, hn]; exact this.2⟩,
   fun b hb => by obtain ⟨o, q⟩ := Option.isSome_iff_exists.1 hb; rw [e1]; exact (e2 b o q).2, hh.glob⟩
  refine hj.2 f w args' hl hd K fun f' v' w' hh' hx hv => ?_
  have oldOf : ∀ b x, b < nx → f' b = some x → f b = some x := fun b x hb hf => (hx.new b x hf).resolve_right (by rw [e1]; omega)
  have still : ∀ r, r < w.heap.size → w'.heap[r]? = w.heap[r]? := fun r hr => hx.old r hr fun b lz hb _ => by
   obtain ⟨o, q⟩ := Option.isSome_iff_exists.1 hb
   have := (e2 b o q).2; omega
  have newR : ∀ b r lz, nx ≤ b → f' b = some (r, lz) → w.heap.size ≤ r := fun b r lz hb hf => by
   rcases hx.fresh b r lz (hh.fresh (by exact hb)) hf with h1 | ⟨b0, lz0, h1, _, h2⟩
   ·exact h1
   ·obtain ⟨o, q⟩ := Option.isSome_iff_exists.1 h1
    have := (e2 b0 o q).2; omega
  have hle : nx ≤ m.next' := by have := hx.next; omega
  -- what lives afterwards
  have lives : ∀ b o, (⟨h', m.next', lo⟩ : CW).get b = some o → (b < nx ∧ (⟨hp, nx, lo⟩ : CW).get b = some o) ∨ (nx ≤ b ∧ d'.get b = some o) := fun b o hb => by
   rcases g2 b o hb with h1 | h1
   ·exact .inl ⟨hh.live b (by show (hp.get b).isSome = true; rw [h1]; rfl), h1⟩
   ·obtain ⟨q1, q2⟩ := e5 b o h1
    exact .inr ⟨by omega, q1⟩
  have keep : ∀ b, b < nx → (⟨h', m.next', lo⟩ : CW).get b = (⟨hp, nx, lo⟩ : CW).get b := fun b hb => g3 b fun o ho => by
   have := (e5 b o ho).2; omega
  refine hK f' v' w' ⟨fun b1 b2 r l1 l2 h1 h2 q1 q2 => ?_, fun b o r lz hb hf => ?_, fun b r lz hf => by have := hh'.dom b r lz hf; rw [e3] at this; exact this, fun b hb => ?_, hh'.glob⟩
   ⟨hx.sub, fun b x hf => by have := hx.new b x hf; rw [e1, hn] at this; exact this, hle, Nat.le_refl _, hx.size, hx.tape, hx.os, hx.output, fun r hr _ => still r hr, fun b r lz hb hf => ?_, fun b hb _ => keep b hb, fun b hb q => by rw [keep b hb]; exact q⟩ hv
  ·obtain ⟨o1, s1⟩ := Option.isSome_iff_exists.1 h1
   obtain ⟨o2, s2⟩ := Option.isSome_iff_exists.1 h2
   rcases lives b1 o1 s1 with ⟨n1, t1⟩ | ⟨n1, t1⟩ <;> rcases lives b2 o2 s2 with ⟨n2, t2⟩ | ⟨n2, t2⟩
   ·exact hh.inj b1 b2 r l1 l2 (by rw [t1]; rfl) (by rw [t2]; rfl) (oldOf _ _ n1 q1) (oldOf _ _ n2 q2)
   ·have a1 := (hh.dom _ _ _ (oldOf _ _ n1 q1)).1
    have a2 := newR _ _ _ n2 q2; omega
   ·have a1 := (hh.dom _ _ _ (oldOf _ _ n2 q2)).1
    have a2 := newR _ _ _ n1 q1; omega
   ·exact hh'.inj b1 b2 r l1 l2 (by rw [t1]; rfl) (by rw [t2]; rfl) q1 q2
  ·rcases lives b o hb with ⟨n1, t1⟩ | ⟨n1, t1⟩
   ·have q := oldOf _ _ n1 hf
    obtain ⟨o', s1, s2⟩ := hh.obj b o r lz t1 q
    exact ⟨o', by rw [still r (hh.dom _ _ _ q).1]; exact s1, s2.mono hx.sub⟩
   ·exact hh'.obj b o r lz t1 hf
  ·obtain ⟨o, s1⟩ := Option.isSome_iff_exists.1 hb
   show b < m.next'
   rcases lives b o s1 with ⟨n1, t1⟩ | ⟨n1, t1⟩
   ·omega
   ·have := hh'.live b (by rw [t1]; rfl); omega
  ·by_cases hn : b < nx
   ·have := oldOf _ _ hn hf; rw [hb] at this; cases this
   ·exact .inl (newR _ _ _ (by omega) hf)
 ·cases h

theorem goM_ok {P : Program} (hP : Fair P) {ms : List Memo} (hms : ∀ m ∈ ms, MemoOk P m) {r : Rec} (hr : Ok P r) : Ok P (goM P ms r) := by
 intro task tm ds c k h
 cases task with
 | code rd nt cd => exact goStep_ok hP hr (drawOk hP hr) (.code rd nt cd) tm ds c k h
 | more t =>
  cases t with
  | call g args =>
   simp only [goM] at h
   split at h
   ·next m hm =>
    obtain ⟨h1, h2, rfl⟩ := pickM_ok hm
    exact memoK_ok (hms m h1) h2 h
   ·exact goStep_ok hP hr (drawOk hP hr) (.more (.call g args)) tm ds c k h
  | round rd nt cd => exact goStep_ok hP hr (drawOk hP hr) (.more (.round rd nt cd)) tm ds c k h
  | yield l args => exact goStep_ok hP hr (drawOk hP hr) (.more (.yield l args)) tm ds c k h
  | leave fn => exact goStep_ok hP hr (drawOk hP hr) (.more (.leave fn)) tm ds c k h
  | dcall g args => exact goStep_ok hP hr (drawOk hP hr) (.more (.dcall g args)) tm ds c k h
def goN (P : Program) (ms : List Memo) (n : Nat) : Rec := Nat.rec (fun _ _ _ _ _ => false) (fun _ r => goM P ms r) n
theorem goN_ok {P : Program} (hP : Fair P) {ms : List Memo} (hms : ∀ m ∈ ms, MemoOk P m) : ∀ n, Ok P (goN P ms n)
 | 0 => fun task tm ds c k h => by cases h
 | n+1 => goM_ok hP hms (goN_ok hP hms n)

def kMemo (m : Memo) : K := fun _ v _ _ c => match c with
 | ⟨h, nx, lo⟩ => valEq 20 v m.v && (Nat.beq nx m.next' && (Nat.ble m.next lo && holdsK m.next ⟨h, nx, lo⟩ m.frag'))
/-- the run that a memo is of -/
def runMemo (P : Program) (ms : List Memo) (n : Nat) (m : Memo) : Bool := belowK m.next m.frag && putsK m.frag .nil fun h => goN P ms n (.more (.call m.g m.args)) .nil [] ⟨h, m.next, m.next⟩ (kMemo m)
theorem memo_ok {P : Program} (hP : Fair P) {ms : List Memo} (hms : ∀ m ∈ ms, MemoOk P m) {n : Nat} {m : Memo} (h : runMemo P ms n m = true) : MemoOk P m := by
 unfold runMemo at h
 simp only [Bool.and_eq_true] at h
 obtain ⟨hb, h⟩ := h
 obtain ⟨h', g1, g2, g3⟩ := putsK_ok h
 obtain ⟨e, v, tm', ds', c', h1, hj⟩ := goN_ok hP hms n _ _ _ _ _ g1
 obtain ⟨hp, nx, lo⟩ := c'
 simp only [kMemo, Bool.and_eq_true] at h1
 obtain ⟨h2, h3, h4, h5⟩ := h1
 refine ⟨⟨⟨h', m.next, m.next⟩, ⟨hp, nx, lo⟩, by rw [← valEq_ok 20 _ _ h2]; exact hj, rfl, fun b o q => ?_, Nat.eq_of_beq_eq_true h3, Nat.le_of_ble_eq_true h4, holdsK_ok h5⟩⟩
 rcases g2 b o q with h6 | h6
 ·rw [T.get_nil] at h6; cases h6
 ·exact ⟨h6, belowK_ok hb b o h6⟩

def runsM (P : Program) (ms : List Memo) (n : Nat) (f : FuncId) (gl : List (Nat × CObj)) (chk : Value → Bool) : Bool := layK gl .nil fun h => goN P ms n (.more (.call f [])) .nil [] ⟨h, Glob.num, Glob.num⟩ (kLow chk)
/-- as runs_sound, with calls that were run before -/
theorem runsM_sound {P : Program} (hP : Fair P) {ms : List Memo} (hms : ∀ m ∈ ms, MemoOk P m) {n : Nat} {g : FuncId} {gl : List (Nat × CObj)} {chk : Value → Bool} (h : runsM P ms n g gl chk = true) (w : World) (hw : GW gl w) :
  ∃ v, chk v = true ∧ CallsIn (FW none) 0 P g #[] w (retK fun v' w' => (∃ f', VR f' v v') ∧ w.heap.size ≤ w'.heap.size ∧ (∀ i, i < w.heap.size → w'.heap[i]? = w.heap[i]?) ∧ w'.tape = w.tape ∧ w'.os = w.os ∧ w'.output = w.output) := by
 obtain ⟨h', g1, g2⟩ := layK_ok h
 obtain ⟨e, v, tm', ds', c', h1, _, h2⟩ := goN_ok hP hms n _ _ _ _ _ g1
 unfold kLow at h1
 split at h1
 ·next hlow =>
  have hlow := Nat.le_of_ble_eq_true hlow
  have hh : ∀ b o, h'.get b = some o → b < Glob.num ∧ (b, o) ∈ gl := fun b o hb => by
   rcases g2 b o hb with h3 | h3
   ·rw [T.get_nil] at h3; cases h3
   ·exact h3
  refine ⟨v, h1, h2 gMp w #[] .nil (HR_g hw hh) _ fun f' v' w' _ hx hv => ⟨⟨f', hv⟩, hx.size, fun i hi => hx.old i hi fun b lz hb hf => ?_, hx.tape, hx.os, hx.output⟩⟩
  exact Nat.lt_of_lt_of_le (gMp_eq hf).2.2 hlow
 ·cases h1
end
end Go.Can
namespace Go.Can
open Go Go.RowKit
variable [Glob]
set_option linter.unusedSectionVars false

theorem HR.below {f : Mp} {c : CW} {w w' : World} (h : HR f c w) (hb : Below w.heap.size w w') : HR f c w' ∧ Ext f c w f c w' :=
  ⟨⟨h.inj, fun b o r lz h1 h2 => by
      obtain ⟨o', h3, h4⟩ := h.obj b o r lz h1 h2
      exact ⟨o', by rw [hb.block r (h.dom b r lz h2).1]; exact h3, h4⟩,
    fun b r lz e => ⟨Nat.lt_of_lt_of_le (h.dom b r lz e).1 hb.size, (h.dom b r lz e).2⟩, h.live, h.glob⟩,
   ⟨Sub.refl f, fun _ _ h => .inl h, Nat.le_refl _, Nat.le_refl _, hb.size, hb.tape, hb.os, hb.output, fun r hr _ => hb.block r hr, fun _ _ _ h e => (by rw [h] at e; cases e), fun _ _ _ => rfl, fun _ _ h => h⟩⟩

/-- cells of plain values, as they stand -/
theorem OR.plain {l : List Value} {e : TypeId} {fr : Nat × Nat} (h : l.all plainB = true) : OR gMp none (.cells l e fr none) (.cells l.toArray e fr) :=
  ⟨rfl, rfl, .inl ⟨rfl, rfl⟩, ⟨by simp, fun _ => by simp, fun i v hv => ⟨v, by simpa using hv, .of_plain (List.all_eq_true.1 h v (List.mem_of_getElem? hv))⟩⟩⟩
theorem runsM_true {P : Program} (hP : Fair P) {ms : List Memo} (hms : ∀ m ∈ ms, MemoOk P m) {n : Nat} {g : FuncId} {gl : List (Nat × CObj)} (h : runsM P ms n g gl isTrue = true) (w : World) (hw : GW gl w) :
    Calls P g #[] w fun e w' => e = .returned (.bool true) ∧ Below w.heap.size w w' := by
  obtain ⟨v, h1, h2⟩ := runsM_sound hP hms h w hw
  refine (callsIn_wide.1 h2).mono fun e w' he => ?_
  cases e with
  | returned u =>
    obtain ⟨⟨f', hv⟩, s1, s2, s3, s4, s5⟩ := he
    refine ⟨?_, ⟨s4, s3, s5, s1, s2⟩⟩
    cases hv <;> simp [isTrue] at h1
    rw [h1]
  | panicked _ => exact he.elim
  | outgrown => exact he.elim
end Go.Can
namespace Go.Can
open Go Go.RowKit
variable [Glob]
set_option linter.unusedSectionVars false
noncomputable section
/-- in memory -/
def SlI (w : World) (v : Value) (l : List Int) : Prop := ∃ b o cap, v = .slice (some ⟨b, o, none⟩) l.length cap ∧ l.length ≤ cap ∧ b < w.heap.size ∧ ∀ i (h : i < l.length), w.cell? ⟨b, o + i, none⟩ = some (.int .i64 (l[i]))
def SlII (w : World) (v : Value) (l : List (List Int)) : Prop := ∃ b o cap, v = .slice (some ⟨b, o, none⟩) l.length cap ∧ b < w.heap.size ∧ ∀ i (h : i < l.length), ∃ u, w.cell? ⟨b, o + i, none⟩ = some u ∧ SlI w u (l[i])
theorem SlI.below {w w' : World} {v : Value} {l : List Int} (h : SlI w v l) (hb : Below w.heap.size w w') : SlI w' v l := by
 obtain ⟨b, o, cap, h1, h0, h2, h3⟩ := h
 exact ⟨b, o, cap, h1, h0, Nat.lt_of_lt_of_le h2 hb.size, fun i hi => (hb.cell (p := ⟨b, o + i, none⟩) h2).trans (h3 i hi)⟩
theorem SlII.below {w w' : World} {v : Value} {l : List (List Int)} (h : SlII w v l) (hb : Below w.heap.size w w') : SlII w' v l := by
 obtain ⟨b, o, cap, h1, h2, h3⟩ := h
 refine ⟨b, o, cap, h1, Nat.lt_of_lt_of_le h2 hb.size, fun i hi => ?_⟩
 obtain ⟨u, h4, h5⟩ := h3 i hi
 exact ⟨u, (hb.cell (p := ⟨b, o + i, none⟩) h2).trans h4, h5.below hb⟩
end
end Go.Can
