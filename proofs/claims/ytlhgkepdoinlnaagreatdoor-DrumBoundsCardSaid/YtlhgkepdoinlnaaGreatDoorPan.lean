/- A part of the proof: see the last file. -/
import GoSem.Step
import Derived.KernelRfl
import Derived.RowKit
import Derived.Laws.Tables
import Derived.Laws.BytesString
set_option linter.unusedVariables false
set_option linter.unusedSimpArgs false
set_option linter.unusedSectionVars false
namespace Go.Can
open Go

/-! ### A trie -/
inductive T (α : Type) where
 | nil : T α
 | node : Option α → T α → T α → T α

noncomputable section
/-- the way down: 0 is here; odd numbers left, even ones right -/
def down (n : Nat) : Nat := Nat.div (Nat.sub n 1) 2
noncomputable def T.get {α : Type} (t : T α) : Nat → Option α := T.rec (fun _ => none)
 (fun v _ _ il ir n => Bool.rec (motive := fun _ => Option α) (Bool.rec (motive := fun _ => Option α) (ir (down n)) (il (down n)) (Nat.beq (Nat.land n 1) 1)) v (Nat.beq n 0)) t

/-- a trie of one place -/
noncomputable def T.sing {α : Type} (v : Option α) (d : Nat) : Nat → (T α → Bool) → Bool := Nat.rec (fun _ _ => false)
 (fun _ ih n k => Bool.rec (motive := fun _ => Bool) (Bool.rec (motive := fun _ => Bool) (ih (down n) fun r => k (.node none .nil r)) (ih (down n) fun l => k (.node none l .nil)) (Nat.beq (Nat.land n 1) 1)) (k (.node v .nil .nil)) (Nat.beq n 0)) d
noncomputable def T.put {α : Type} (v : Option α) (d : Nat) (t : T α) : Nat → (T α → Bool) → Bool := T.rec (fun n k => T.sing v d n k)
 (fun w l r il ir n k => Bool.rec (motive := fun _ => Bool) (Bool.rec (motive := fun _ => Bool) (ir (down n) fun r' => k (.node w l r')) (il (down n) fun l' => k (.node w l' r)) (Nat.beq (Nat.land n 1) 1)) (k (.node v l r)) (Nat.beq n 0)) t

theorem odd_eq (n : Nat) : Nat.beq (Nat.land n 1) 1 = decide (n % 2 = 1) := by
 have : Nat.land n 1 = n % 2 := Nat.and_one_is_mod n
 rw [this]
 rcases Nat.mod_two_eq_zero_or_one n with h | h <;> rw [h] <;> rfl
theorem T.get_nil {α : Type} (n : Nat) : (T.nil : T α).get n = none := rfl
theorem T.get_node {α : Type} (v : Option α) (l r : T α) (n : Nat) :
  (T.node v l r).get n = if n = 0 then v else if n % 2 = 1 then l.get (down n) else r.get (down n) := by
 show Bool.rec (motive := fun _ => Option α) (Bool.rec (motive := fun _ => Option α) (r.get (down n)) (l.get (down n)) (Nat.beq (Nat.land n 1) 1)) v (Nat.beq n 0) = _
 rw [odd_eq]
 by_cases h : n = 0
 ·subst h; rfl
 ·have h0 : Nat.beq n 0 = false := by cases n with
   | zero => exact absurd rfl h
   | succ m => rfl
  rw [h0, if_neg h]
  by_cases h1 : n % 2 = 1
  ·simp [h1]
  ·simp [h1]
theorem down_inj {n m : Nat} (hn : n ≠ 0) (hm : m ≠ 0) (h : n % 2 = m % 2) (hd : down n = down m) : n = m := by
 have e1 : down n = (n - 1) / 2 := rfl
 have e2 : down m = (m - 1) / 2 := rfl
 rw [e1, e2] at hd
 omega
theorem T.sing_ok {α : Type} {v : Option α} : ∀ {d n : Nat} {k : T α → Bool}, T.sing v d n k = true → ∃ t', k t' = true ∧ ∀ j, t'.get j = if j = n then v else none := by
 intro d
 induction d with
 | zero => intro n k h; cases h
 | succ d ih =>
  intro n k h
  have h : Bool.rec (motive := fun _ => Bool) (Bool.rec (motive := fun _ => Bool) (T.sing v d (down n) fun r => k (.node none .nil r)) (T.sing v d (down n) fun l => k (.node none l .nil)) (Nat.beq (Nat.land n 1) 1)) (k (.node v .nil .nil)) (Nat.beq n 0) = true := h
  rw [odd_eq] at h
  by_cases h0 : n = 0
  ·subst h0
   refine ⟨_, h, fun j => ?_⟩
   rw [T.get_node]
   by_cases hj : j = 0 <;> simp [hj, T.get_nil]
  ·have e0 : Nat.beq n 0 = false := by cases n with
    | zero => exact absurd rfl h0
    | succ m => rfl
   rw [e0] at h
   by_cases h1 : n % 2 = 1
   ·simp only [h1, decide_true] at h
    obtain ⟨t', hk, ht⟩ := ih h
    refine ⟨_, hk, fun j => ?_⟩
    rw [T.get_node]
    by_cases hj : j = 0
    ·subst hj; rw [if_pos rfl, if_neg (Ne.symm h0)]
    ·rw [if_neg hj]
     by_cases hj1 : j % 2 = 1
     ·rw [if_pos hj1, ht]
      by_cases hd : down j = down n
      ·rw [if_pos hd, if_pos (down_inj hj h0 (by omega) hd)]
      ·rw [if_neg hd, if_neg (fun e => hd (by rw [e]))]
     ·rw [if_neg hj1, T.get_nil, if_neg (fun e => hj1 (by rw [e]; exact h1))]
   ·simp only [h1, decide_false] at h
    obtain ⟨t', hk, ht⟩ := ih h
    refine ⟨_, hk, fun j => ?_⟩
    rw [T.get_node]
    by_cases hj : j = 0
    ·subst hj; rw [if_pos rfl, if_neg (Ne.symm h0)]
    ·rw [if_neg hj]
     by_cases hj1 : j % 2 = 1
     ·rw [if_pos hj1, T.get_nil, if_neg (fun e => h1 (by rw [← e]; exact hj1))]
     ·rw [if_neg hj1, ht]
      by_cases hd : down j = down n
      ·rw [if_pos hd, if_pos (down_inj hj h0 (by omega) hd)]
      ·rw [if_neg hd, if_neg (fun e => hd (by rw [e]))]
theorem T.put_ok {α : Type} {v : Option α} {d : Nat} : ∀ {t : T α} {n : Nat} {k : T α → Bool}, T.put v d t n k = true →
  ∃ t', k t' = true ∧ ∀ j, t'.get j = if j = n then v else t.get j := by
 intro t
 induction t with
 | nil => intro n k h; obtain ⟨t', h1, h2⟩ := T.sing_ok (v := v) (d := d) (n := n) (k := k) h; exact ⟨t', h1, h2⟩
 | node w l r il ir =>
  intro n k h
  have h : Bool.rec (motive := fun _ => Bool) (Bool.rec (motive := fun _ => Bool) (T.put v d r (down n) fun r' => k (.node w l r')) (T.put v d l (down n) fun l' => k (.node w l' r)) (Nat.beq (Nat.land n 1) 1)) (k (.node v l r)) (Nat.beq n 0) = true := h
  rw [odd_eq] at h
  by_cases h0 : n = 0
  ·subst h0
   refine ⟨_, h, fun j => ?_⟩
   rw [T.get_node, T.get_node]
   by_cases hj : j = 0 <;> simp [hj]
  ·have e0 : Nat.beq n 0 = false := by cases n with
    | zero => exact absurd rfl h0
    | succ m => rfl
   rw [e0] at h
   by_cases h1 : n % 2 = 1
   ·simp only [h1, decide_true] at h
    obtain ⟨t', hk, ht⟩ := il h
    refine ⟨_, hk, fun j => ?_⟩
    rw [T.get_node, T.get_node]
    by_cases hj : j = 0
    ·subst hj; rw [if_pos rfl, if_neg (Ne.symm h0), if_pos rfl]
    ·rw [if_neg hj, if_neg hj]
     by_cases hj1 : j % 2 = 1
     ·rw [if_pos hj1, if_pos hj1, ht]
      by_cases hd : down j = down n
      ·rw [if_pos hd, if_pos (down_inj hj h0 (by omega) hd)]
      ·rw [if_neg hd, if_neg (fun e => hd (by rw [e]))]
     ·rw [if_neg hj1, if_neg hj1, if_neg (fun e => hj1 (by rw [e]; exact h1))]
   ·simp only [h1, decide_false] at h
    obtain ⟨t', hk, ht⟩ := ir h
    refine ⟨_, hk, fun j => ?_⟩
    rw [T.get_node, T.get_node]
    by_cases hj : j = 0
    ·subst hj; rw [if_pos rfl, if_neg (Ne.symm h0), if_pos rfl]
    ·rw [if_neg hj, if_neg hj]
     by_cases hj1 : j % 2 = 1
     ·rw [if_pos hj1, if_pos hj1, if_neg (fun e => h1 (by rw [← e]; exact hj1))]
     ·rw [if_neg hj1, if_neg hj1, ht]
      by_cases hd : down j = down n
      ·rw [if_pos hd, if_pos (down_inj hj h0 (by omega) hd)]
      ·rw [if_neg hd, if_neg (fun e => hd (by rw [e]))]

/-! ### Numbers reckoned out -/
def natK (n : Nat) (k : Nat → Bool) : Bool := match n with
 | 0 => k 0
 | m+1 => k (Nat.succ m)
theorem natK_eq (n : Nat) (k : Nat → Bool) : natK n k = k n := by cases n <;> rfl

def intK (n : Int) (k : Int → Bool) : Bool := match n with
 | .ofNat m => natK m fun m => k (.ofNat m)
 | .negSucc m => natK m fun m => k (.negSucc m)
theorem intK_eq (n : Int) (k : Int → Bool) : intK n k = k n := by cases n <;> simp [intK, natK_eq]

def boolK (b : Bool) (k : Bool → Bool) : Bool := match b with
 | true => k true
 | false => k false
theorem boolK_eq (b : Bool) (k : Bool → Bool) : boolK b k = k b := by cases b <;> rfl

def valK (v : Value) (k : Value → Bool) : Bool := match v with
 | .int i n => intK n fun n => k (.int i n)
 | .bool b => boolK b fun b => k (.bool b)
 | v => k v
theorem valK_eq (v : Value) (k : Value → Bool) : valK v k = k v := by cases v <;> simp [valK, intK_eq, boolK_eq]

def minK (a b : Nat) (k : Nat → Bool) : Bool := match Nat.ble a b with
 | true => k a
 | false => k b
theorem minK_eq (a b : Nat) (k : Nat → Bool) : minK a b k = k (min a b) := by
 unfold minK
 cases h : Nat.ble a b with
 | true => have := Nat.le_of_ble_eq_true h; rw [Nat.min_eq_left this]
 | false =>
  have : ¬ a ≤ b := fun hle => by rw [Nat.ble_eq_true_of_le hle] at h; cases h
  rw [Nat.min_eq_right (by omega)]

/-! ### The canonical heap -/
inductive CObj where
 /-- cells; 'loose': some es: the real block may be greater; an element has es cells -/
 | cells (c : List Value) (elem : TypeId) (frozen : Nat × Nat) (loose : Option Nat)
 | obj (o : Obj)
 | loop (state : LoopState) (pending : Option Code) (tm : T Value) (nt : Nat) (params : List Tmp) (assign body : Code) (defers : Nat)

structure CW where
 heap : T CObj
 next : Nat
 low : Nat

def CW.get (c : CW) (b : Nat) : Option CObj := c.heap.get b

def CW.new (c : CW) (o : CObj) (k : Nat → CW → Bool) : Bool :=
 match c with
 | ⟨h, nx, lo⟩ => T.put (some o) 64 h nx fun h => natK (nx + 1) fun nx' => k nx ⟨h, nx', lo⟩

theorem CW.new_ok {c : CW} {o : CObj} {k : Nat → CW → Bool} (h : c.new o k = true) :
  ∃ c', k c.next c' = true ∧ c'.next = c.next + 1 ∧ c'.low = c.low ∧ ∀ b, c'.get b = if b = c.next then some o else c.get b := by
 obtain ⟨hp, nx, lo⟩ := c
 obtain ⟨t', hk, ht⟩ := T.put_ok h
 rw [natK_eq] at hk
 exact ⟨_, hk, rfl, rfl, ht⟩

def CW.set (c : CW) (b : Nat) (o : Option CObj) (k : CW → Bool) : Bool :=
 match c with
 | ⟨h, nx, lo⟩ => T.put o 64 h b fun h => minK lo b fun lo => k ⟨h, nx, lo⟩

theorem CW.set_ok {c : CW} {b : Nat} {o : Option CObj} {k : CW → Bool} (h : c.set b o k = true) :
  ∃ c', k c' = true ∧ c'.next = c.next ∧ c'.low = min c.low b ∧ ∀ j, c'.get j = if j = b then o else c.get j := by
 obtain ⟨hp, nx, lo⟩ := c
 obtain ⟨t', hk, ht⟩ := T.put_ok h
 rw [minK_eq] at hk
 exact ⟨_, hk, rfl, rfl, ht⟩

/-! ### Lists of cells -/
def revK : List Value → List Value → (List Value → Bool) → Bool
 | [], acc, k => k acc
 | v :: l, acc, k => revK l (v :: acc) k
theorem revK_eq : ∀ (l acc : List Value) (k : List Value → Bool), revK l acc k = k (l.reverse ++ acc)
 | [], _, _ => rfl
 | v :: l, acc, k => by rw [revK, revK_eq l]; simp

/-- n cells from off on -/
def takeK : (l : List Value) → (off n : Nat) → (acc : List Value) → (List Value → Bool) → Bool
 | _, 0, 0, acc, k => revK acc [] k
 | v :: l, 0, n+1, acc, k => takeK l 0 n (v :: acc) k
 | _ :: l, o+1, n, acc, k => takeK l o n acc k
 | [], 0, _+1, _, _ => false
 | [], _+1, _, _, _ => false
theorem takeK_ok : ∀ {l : List Value} {off n : Nat} {acc : List Value} {k : List Value → Bool}, takeK l off n acc k = true →
  off + n ≤ l.length ∧ k (acc.reverse ++ (l.drop off).take n) = true := by
 intro l
 induction l with
 | nil =>
  intro off n acc k h
  match off, n with
  | 0, 0 => simp [takeK, revK_eq] at h; exact ⟨by simp, by simpa using h⟩
  | 0, n+1 => simp [takeK] at h
  | o+1, n => simp [takeK] at h
 | cons v l ih =>
  intro off n acc k h
  match off, n with
  | 0, 0 => simp [takeK, revK_eq] at h; exact ⟨by simp, by simpa using h⟩
  | 0, n+1 => obtain ⟨h1, h2⟩ := ih (off := 0) (n := n) h; exact ⟨by simp at h1 ⊢; omega, by simpa using h2⟩
  | o+1, n => obtain ⟨h1, h2⟩ := ih (off := o) (n := n) h; exact ⟨by simp at h1 ⊢; omega, by simpa using h2⟩

/-- new values over the cells from off on -/
def overK : (l : List Value) → (off : Nat) → (vs : List Value) → (acc : List Value) → (List Value → Bool) → Bool
 | l, 0, [], acc, k => revK acc l k
 | _ :: l, 0, v :: vs, acc, k => overK l 0 vs (v :: acc) k
 | x :: l, o+1, vs, acc, k => overK l o vs (x :: acc) k
 | [], 0, _ :: _, _, _ => false
 | [], _+1, _, _, _ => false

def over (l : List Value) (off : Nat) (vs : List Value) : List Value := l.take off ++ vs ++ l.drop (off + vs.length)
theorem overK_ok : ∀ {l : List Value} {off : Nat} {vs acc : List Value} {k : List Value → Bool}, overK l off vs acc k = true →
  off + vs.length ≤ l.length ∧ k (acc.reverse ++ over l off vs) = true := by
 intro l
 induction l with
 | nil =>
  intro off vs acc k h
  match off, vs with
  | 0, [] => simp [overK, revK_eq] at h; exact ⟨by simp, by simpa [over] using h⟩
  | 0, v :: vs => simp [overK] at h
  | o+1, vs => simp [overK] at h
 | cons x l ih =>
  intro off vs acc k h
  match off, vs with
  | 0, [] => simp [overK, revK_eq] at h; exact ⟨by simp, by simpa [over] using h⟩
  | 0, v :: vs =>
   obtain ⟨h1, h2⟩ := ih (off := 0) (vs := vs) h
   refine ⟨by simp at h1 ⊢; omega, ?_⟩
   simpa [over, Nat.add_comm, Nat.add_assoc] using h2
  | o+1, vs =>
   obtain ⟨h1, h2⟩ := ih (off := o) (vs := vs) h
   refine ⟨by simp at h1 ⊢; omega, ?_⟩
   have e : o + 1 + vs.length = (o + vs.length) + 1 := by omega
   simpa [over, e] using h2

theorem over_length {l : List Value} {off : Nat} {vs : List Value} (h : off + vs.length ≤ l.length) : (over l off vs).length = l.length := by
 simp [over]; omega
theorem over_get {l : List Value} {off : Nat} {vs : List Value} (h : off + vs.length ≤ l.length) (i : Nat) :
  (over l off vs)[i]? = if off ≤ i ∧ i < off + vs.length then vs[i - off]? else l[i]? := by
 unfold over
 by_cases h1 : i < off
 ·rw [if_neg (by omega), List.append_assoc, List.getElem?_append_left (by simp; omega), List.getElem?_take, if_pos h1]
 ·by_cases h2 : i < off + vs.length
  ·rw [if_pos ⟨by omega, h2⟩, List.getElem?_append_left (by simp; omega), List.getElem?_append_right (by simp; omega)]
   simp; congr 1; omega
  ·rw [if_neg (by omega), List.getElem?_append_right (by simp; omega), List.getElem?_drop]
   simp; congr 1; omega

def getK : List Value → Nat → (Value → Bool) → Bool
 | v :: _, 0, k => k v
 | _ :: l, n+1, k => getK l n k
 | [], _, _ => false
theorem getK_ok : ∀ {l : List Value} {n : Nat} {k : Value → Bool}, getK l n k = true → ∃ v, l[n]? = some v ∧ k v = true
 | v :: _, 0, _, h => ⟨v, rfl, h⟩
 | _ :: l, n+1, k, h => by simpa using getK_ok (l := l) (n := n) (k := k) h
 | [], _, _, h => by simp [getK] at h

/-! ### Types -/
def szK (P : Program) (t : TypeId) (k : Nat → Bool) : Bool := match P.info? t with
 | some i => natK i.size k
 | none => false
theorem szK_ok {P : Program} {t : TypeId} {k : Nat → Bool} (h : szK P t k = true) : ∃ i, P.info? t = some i ∧ k i.size = true := by
 unfold szK at h
 split at h
 ·next i hi => exact ⟨i, hi, by rwa [natK_eq] at h⟩
 ·cases h

/-- no place in memory stands in it -/
def plainB : Value → Bool
 | .bool _ | .int _ _ | .string _ | .nilIface | .nilFunc | .float _ _ => true
 | .pointer none | .slice none _ _ | .map none => true
 | .func (.func _) first cap => first.toList.isEmpty && cap.toList.isEmpty
 | _ => false
/-- plain, or a struct or an interface that holds such. -/
def semiB : Value → Bool
 | .agg cs => cs.toList.all plainB
 | .iface _ v => plainB v
 | v => plainB v
def closedB : Value → Bool
 | .agg cs => cs.toList.all semiB
 | .tuple cs => cs.toList.all semiB
 | .iface _ v => semiB v
 | v => plainB v

def zeroK (P : Program) (t : TypeId) (k : Value → Bool) : Bool := match P.info? t with
 | some i => match i.zero with
  | some v => match closedB v with
   | true => k v
   | false => false
  | none => false
 | none => false
theorem zeroK_ok {P : Program} {t : TypeId} {k : Value → Bool} (h : zeroK P t k = true) :
  ∃ i v, P.info? t = some i ∧ i.zero = some v ∧ closedB v = true ∧ k v = true := by
 unfold zeroK at h
 split at h
 ·next i hi =>
  split at h
  ·next v hv =>
   split at h
   ·next hc => exact ⟨i, v, hi, hv, hc, h⟩
   ·cases h
  ·cases h
 ·cases h

def cellsOf (v : Value) (k : List Value → Bool) : Bool := match v with
 | .agg cs => k cs.toList
 | v => k [v]
theorem cellsOf_eq (v : Value) (k : List Value → Bool) : cellsOf v k = k v.cells.toList := by cases v <;> rfl
end
end Go.Can
namespace Go.Can
noncomputable section
open Go

/-! ### How canonical values stand to real ones -/
/-- none: just as great as the canonical block; some (n, es): n cells, es an element -/
abbrev Z := Option (Nat × Nat)
abbrev Mp := Nat → Option (Nat × Z)
def Room (z : Z) (o cap cap' : Nat) : Prop := (z = none → cap' = cap) ∧ ∀ n es, z = some (n, es) → o = 0 → cap' * es ≤ n

theorem Room.refl {o cap : Nat} : Room none o cap cap := ⟨fun _ => rfl, fun _ _ h => by cases h⟩

theorem Room.cut {z : Z} {o cap cap' : Nat} (h : Room z o cap cap') (x l : Nat) : Room z (o + x) (cap - l) (cap' - l) :=
 ⟨fun e => by rw [h.1 e], fun n es e ho => Nat.le_trans (Nat.mul_le_mul_right es (Nat.sub_le _ _)) (h.2 n es e (by omega))⟩
theorem Room.top {z : Z} {o cap cap' m : Nat} (h : Room z o cap cap') (hm : m ≤ cap) (hle : cap ≤ cap') (x l : Nat) : Room z (o + x) (m - l) (m - l) :=
 ⟨fun _ => rfl, fun n es e ho => Nat.le_trans (Nat.mul_le_mul_right es (by omega)) (h.2 n es e (by omega))⟩

mutual
inductive VR (f : Mp) : Value → Value → Prop
 | bool (b : Bool) : VR f (.bool b) (.bool b)
 | int (k : IntKind) (n : Int) : VR f (.int k n) (.int k n)
 | float (k : FloatKind) (b : Nat) : VR f (.float k b) (.float k b)
 | string (s : ByteArray) : VR f (.string s) (.string s)
 | ptrN : VR f (.pointer none) (.pointer none)
 | ptr {b r : Nat} {lz : Z} (o : Nat) (s : Option Nat) (h : f b = some (r, lz)) : VR f (.pointer (some ⟨b, o, s⟩)) (.pointer (some ⟨r, o, s⟩))
 | sliceN (l c : Nat) : VR f (.slice none l c) (.slice none l c)
 | slice {b r : Nat} {lz : Z} {cap cap' : Nat} (o len : Nat) (h : f b = some (r, lz)) (h1 : cap ≤ cap') (h2 : Room lz o cap cap') :
   VR f (.slice (some ⟨b, o, none⟩) len cap) (.slice (some ⟨r, o, none⟩) len cap')
 | sliceE {b r : Nat} {p : Nat × Nat} (o : Nat) (s : Option Nat) (a' : Addr) (cap' : Nat) (h : f b = some (r, some p)) (hs : a'.spot = none) : VR f (.slice (some ⟨b, o, s⟩) 0 0) (.slice (some a') 0 cap')
 | mapN : VR f (.map none) (.map none)
 | map {b r : Nat} {lz : Z} (h : f b = some (r, lz)) : VR f (.map (some b)) (.map (some r))
 | func (g : FuncId) {first cap first' cap' : Array Value} (h1 : LR f first.toList first'.toList) (h2 : LR f cap.toList cap'.toList) :
   VR f (.func (.func g) first cap) (.func (.func g) first' cap')
 | yield {l r : Nat} {lz : Z} (h : f l = some (r, lz)) : VR f (.func (.yield l) #[] #[]) (.func (.yield r) #[] #[])
 | nilFunc : VR f .nilFunc .nilFunc
 | nilIface : VR f .nilIface .nilIface
 | iface (t : TypeId) {v v' : Value} (h : VR f v v') : VR f (.iface t v) (.iface t v')
 | agg {cs cs' : Array Value} (h : LR f cs.toList cs'.toList) : VR f (.agg cs) (.agg cs')
 | tuple {cs cs' : Array Value} (h : LR f cs.toList cs'.toList) : VR f (.tuple cs) (.tuple cs')
inductive LR (f : Mp) : List Value → List Value → Prop
 | nil : LR f [] []
 | cons {v v' : Value} {l l' : List Value} (h : VR f v v') (t : LR f l l') : LR f (v :: l) (v' :: l')
end

def Sub (f g : Mp) : Prop := ∀ b x, f b = some x → g b = some x
theorem Sub.refl (f : Mp) : Sub f f := fun _ _ h => h
theorem Sub.trans {f g h : Mp} (a : Sub f g) (b : Sub g h) : Sub f h := fun i x e => b i x (a i x e)

mutual
theorem VR.mono {f g : Mp} (s : Sub f g) : ∀ {v v' : Value}, VR f v v' → VR g v v'
 | _, _, .bool b => .bool b
 | _, _, .int k n => .int k n
 | _, _, .float k n => .float k n
 | _, _, .string b => .string b
 | _, _, .ptrN => .ptrN
 | _, _, .ptr o sp h => .ptr o sp (s _ _ h)
 | _, _, .sliceN l c => .sliceN l c
 | _, _, .slice o len h h1 h2 => .slice o len (s _ _ h) h1 h2
 | _, _, .sliceE o sp a' c h hs => .sliceE o sp a' c (s _ _ h) hs
 | _, _, .mapN => .mapN
 | _, _, .map h => .map (s _ _ h)
 | _, _, .func g h1 h2 => .func g (LR.mono s h1) (LR.mono s h2)
 | _, _, .yield h => .yield (s _ _ h)
 | _, _, .nilFunc => .nilFunc
 | _, _, .nilIface => .nilIface
 | _, _, .iface t h => .iface t (VR.mono s h)
 | _, _, .agg h => .agg (LR.mono s h)
 | _, _, .tuple h => .tuple (LR.mono s h)
theorem LR.mono {f g : Mp} (s : Sub f g) : ∀ {l l' : List Value}, LR f l l' → LR g l l'
 | _, _, .nil => .nil
 | _, _, .cons h t => .cons (VR.mono s h) (LR.mono s t)
end

theorem LR.length {f : Mp} : ∀ {l l' : List Value}, LR f l l' → l'.length = l.length
 | _, _, .nil => rfl
 | _, _, .cons _ t => by simp [LR.length t]
theorem LR.append {f : Mp} : ∀ {l l' m m' : List Value}, LR f l l' → LR f m m' → LR f (l ++ m) (l' ++ m')
 | _, _, _, _, .nil, h => h
 | _, _, _, _, .cons h t, k => .cons h (LR.append t k)
theorem LR.get {f : Mp} : ∀ {l l' : List Value} {i : Nat} {v : Value}, LR f l l' → l[i]? = some v → ∃ v', l'[i]? = some v' ∧ VR f v v'
 | _, _, i, v, .nil, e => by simp at e
 | _, _, 0, v, .cons h _, e => by simp at e; subst e; exact ⟨_, rfl, h⟩
 | _, _, i+1, v, .cons _ t, e => by simpa using LR.get t (by simpa using e)
theorem LR.of_get {f : Mp} : ∀ {l l' : List Value}, l'.length = l.length → (∀ (i : Nat) (v : Value), l[i]? = some v → ∃ v', l'[i]? = some v' ∧ VR f v v') → LR f l l'
 | [], [], _, _ => .nil
 | [], _ :: _, h, _ => by simp at h
 | _ :: _, [], h, _ => by simp at h
 | v :: l, v' :: l', h, hg => by
  obtain ⟨u, hu, hv⟩ := hg 0 v rfl
  simp at hu; subst hu
  exact .cons hv (LR.of_get (by simpa using h) fun i x hx => by simpa using hg (i+1) x (by simpa using hx))
theorem LR.take {f : Mp} : ∀ {l l' : List Value} (n : Nat), LR f l l' → LR f (l.take n) (l'.take n)
 | _, _, 0, _ => by simpa using LR.nil
 | _, _, _+1, .nil => .nil
 | _, _, n+1, .cons h t => .cons h (LR.take n t)
theorem LR.drop {f : Mp} : ∀ {l l' : List Value} (n : Nat), LR f l l' → LR f (l.drop n) (l'.drop n)
 | _, _, 0, h => by simpa using h
 | _, _, _+1, .nil => .nil
 | _, _, n+1, .cons _ t => by simpa using LR.drop n t
theorem LR.over {f : Mp} {l l' vs vs' : List Value} (off : Nat) (h : LR f l l') (k : LR f vs vs') : LR f (over l off vs) (over l' off vs') := by
 unfold Can.over
 rw [k.length]
 exact ((h.take _).append k).append (h.drop _)
theorem LR.reverse {f : Mp} : ∀ {l l' : List Value}, LR f l l' → LR f l.reverse l'.reverse
 | _, _, .nil => .nil
 | _, _, .cons h t => by simpa using (LR.reverse t).append (.cons h .nil)

theorem VR.of_plain {f : Mp} {v : Value} (h : plainB v = true) : VR f v v := by
 unfold plainB at h
 split at h <;> first | exact .bool _ | exact .int _ _ | exact .string _ | exact .nilIface | exact .nilFunc | exact .float _ _ | exact .ptrN | exact .sliceN _ _ | exact .mapN | skip
 ·simp at h
  obtain ⟨h1, h2⟩ := h
  exact .func _ (by simp [h1]; exact .nil) (by simp [h2]; exact .nil)
 ·cases h
theorem LR.of_plain {f : Mp} : ∀ {l : List Value}, l.all plainB = true → LR f l l
 | [], _ => .nil
 | v :: l, h => by simp at h; exact .cons (.of_plain h.1) (LR.of_plain (by simpa using h.2))
theorem VR.of_semi {f : Mp} {v : Value} (h : semiB v = true) : VR f v v := by
 unfold semiB at h
 split at h
 ·exact .agg (.of_plain h)
 ·exact .iface _ (.of_plain h)
 ·exact .of_plain h
theorem LR.of_semi {f : Mp} : ∀ {l : List Value}, l.all semiB = true → LR f l l
 | [], _ => .nil
 | v :: l, h => by simp at h; exact .cons (.of_semi h.1) (LR.of_semi (by simpa using h.2))
theorem VR.of_closed {f : Mp} {v : Value} (h : closedB v = true) : VR f v v := by
 unfold closedB at h
 split at h
 ·exact .agg (.of_semi h)
 ·exact .tuple (.of_semi h)
 ·exact .iface _ (.of_semi h)
 ·exact .of_plain h
theorem VR.plain {f : Mp} {v v' : Value} (r : VR f v v') (h : plainB v = true) : v' = v := by
 cases r <;> first | rfl | (simp [plainB] at h; done) | skip
 ·next h1 h2 =>
  simp [plainB] at h
  rw [h.1] at h1; rw [h.2] at h2
  have e1 := h1.length; have e2 := h2.length
  simp at e1 e2
  rw [h.1, h.2, e1, e2]
theorem LR.plain {f : Mp} : ∀ {l l' : List Value}, LR f l l' → l.all plainB = true → l' = l
 | _, _, .nil, _ => rfl
 | _, _, .cons r t, h => by
  simp at h
  rw [r.plain h.1, LR.plain t (by simpa using h.2)]
theorem VR.semi {f : Mp} {v v' : Value} (r : VR f v v') (h : semiB v = true) : v' = v := by
 cases r <;> first | rfl | (simp [semiB, plainB] at h; done) | skip
 ·exact VR.plain (.func _ (by assumption) (by assumption)) h
 ·next r => rw [r.plain h]
 ·next r => have := r.plain h; rw [Array.toList_inj.1 this]
theorem LR.semi {f : Mp} : ∀ {l l' : List Value}, LR f l l' → l.all semiB = true → l' = l
 | _, _, .nil, _ => rfl
 | _, _, .cons r t, h => by
  simp at h
  rw [r.semi h.1, LR.semi t (by simpa using h.2)]
theorem VR.closed {f : Mp} {v v' : Value} (r : VR f v v') (h : closedB v = true) : v' = v := by
 cases r <;> first | rfl | (simp [closedB, plainB] at h; done) | skip
 ·exact VR.plain (.func _ (by assumption) (by assumption)) h
 ·next r => rw [r.semi h]
 ·next r => have := r.semi h; rw [Array.toList_inj.1 this]
 ·next r => have := r.semi h; rw [Array.toList_inj.1 this]
theorem VR.cells {f : Mp} {v v' : Value} (r : VR f v v') : LR f v.cells.toList v'.cells.toList := by
 cases r
 all_goals first | exact .cons (by constructor <;> assumption) .nil | assumption | skip

/-! ### Package-level variables -/
/-- the first 'num' blocks stand for the blocks of the package-level variables of the same numbers -/
class Glob where
 num : Nat
variable [Glob]
set_option linter.unusedSectionVars false
def GL (f : Mp) : Prop := ∀ g, g < Glob.num → f g = some (g, none)
theorem GL.mono {f g : Mp} (s : Sub f g) (h : GL f) : GL g := fun i hi => s _ _ (h i hi)

/-! ### Temporaries -/
def undefd (x : Option Value) : Value := match x with
 | some v => v
 | none => undef
structure TR (f : Mp) (tm : T Value) (nt : Nat) (ts : Array Value) : Prop where
 size : ts.size = nt
 get : ∀ t, VR f (undefd (tm.get t)) (ts.getD t undef)
 glob : GL f
theorem TR.mono {f g : Mp} (s : Sub f g) {tm : T Value} {nt : Nat} {ts : Array Value} (h : TR f tm nt ts) : TR g tm nt ts := ⟨h.size, fun t => (h.get t).mono s, h.glob.mono s⟩
theorem TR.put {f : Mp} {tm tm' : T Value} {nt d : Nat} {ts : Array Value} {v v' : Value} (h : TR f tm nt ts) (hv : VR f v v')
  (ht : ∀ j, tm'.get j = if j = d then some v else tm.get j) (hd : d < nt) : TR f tm' nt (ts.setIfInBounds d v') := by
 refine ⟨by simp [h.size], fun t => ?_, h.glob⟩
 rw [ht]
 by_cases e : t = d
 ·subst e
  rw [if_pos rfl]
  have : (ts.setIfInBounds t v').getD t undef = v' := by simp [Array.getD, h.size, hd]
  rw [this]; exact hv
 ·rw [if_neg e]
  have : (ts.setIfInBounds d v').getD t undef = ts.getD t undef := by
   simp only [Array.getD_eq_getD_getElem?, Array.getElem?_setIfInBounds]
   rw [if_neg (by omega)]
  rw [this]; exact h.get t

/-! ### The heap -/
structure CellsR (f : Mp) (l : List Value) (lz : Z) (cs : Array Value) : Prop where
 le : l.length ≤ cs.size
 eq : lz = none → l.length = cs.size
 get : ∀ (i : Nat) (v : Value), l[i]? = some v → ∃ v', cs[i]? = some v' ∧ VR f v v'
theorem CellsR.mono {f g : Mp} (s : Sub f g) {l : List Value} {lz : Z} {cs : Array Value} (h : CellsR f l lz cs) : CellsR g l lz cs :=
 ⟨h.le, h.eq, fun i v e => let ⟨v', a, b⟩ := h.get i v e; ⟨v', a, b.mono s⟩⟩

def LZ (lo : Option Nat) (z : Z) (n : Nat) : Prop := (lo = none ∧ z = none) ∨ ∃ es, lo = some es ∧ z = some (n, es)
def OR (f : Mp) (lz : Z) : CObj → Obj → Prop
 | .cells l e fr lo, .cells cs e' fr' => e' = e ∧ fr' = fr ∧ LZ lo lz cs.size ∧ CellsR f l lz cs
 | .obj o, o' => o' = o
 | .loop s p tm nt ps as bd df, .loop r => r.state = s ∧ r.pending = p ∧ TR f tm nt r.tmps ∧ r.params.toList = ps ∧ r.assign = as ∧ r.body = bd ∧ ∃ z, f df = some (r.defers, z)
 | _, _ => False
theorem OR.mono {f g : Mp} (s : Sub f g) {lz : Z} {o : CObj} {o' : Obj} (h : OR f lz o o') : OR g lz o o' := by
 cases o with
 | cells l e fr lo =>
  cases o' <;> simp only [OR] at h ⊢
  exact ⟨h.1, h.2.1, h.2.2.1, h.2.2.2.mono s⟩
 | obj o => exact h
 | loop st p tm nt ps as bd df =>
  cases o' <;> simp only [OR] at h ⊢
  obtain ⟨h1, h2, h3, h4, h5, h6, z, h7⟩ := h
  exact ⟨h1, h2, h3.mono s, h4, h5, h6, z, s _ _ h7⟩

structure HR (f : Mp) (c : CW) (w : World) : Prop where
 inj : ∀ b1 b2 r l1 l2, (c.get b1).isSome = true → (c.get b2).isSome = true → f b1 = some (r, l1) → f b2 = some (r, l2) → b1 = b2
 obj : ∀ b o r lz, c.get b = some o → f b = some (r, lz) → ∃ o', w.heap[r]? = some o' ∧ OR f lz o o'
 dom : ∀ b r lz, f b = some (r, lz) → r < w.heap.size ∧ b < c.next
 live : ∀ b, (c.get b).isSome = true → b < c.next
 glob : GL f

structure Ext (f : Mp) (c : CW) (w : World) (f' : Mp) (c' : CW) (w' : World) : Prop where
 sub : Sub f f'
 new : ∀ b x, f' b = some x → f b = some x ∨ c.next ≤ b
 next : c.next ≤ c'.next
 low : c'.low ≤ c.low
 size : w.heap.size ≤ w'.heap.size
 tape : w'.tape = w.tape
 os : w'.os = w.os
 output : w'.output = w.output
 old : ∀ r, r < w.heap.size → (∀ b lz, (c.get b).isSome = true → f b = some (r, lz) → b < c'.low) → w'.heap[r]? = w.heap[r]?
 fresh : ∀ b r lz, f b = none → f' b = some (r, lz) → w.heap.size ≤ r ∨ ∃ b0 lz0, (c.get b0).isSome = true ∧ f b0 = some (r, lz0) ∧ c'.low ≤ b0
 kept : ∀ b, b < c.next → b < c'.low → c'.get b = c.get b
 dead : ∀ b, b < c.next → c.get b = none → c'.get b = none

theorem Ext.refl (f : Mp) (c : CW) (w : World) : Ext f c w f c w :=
 ⟨Sub.refl f, fun _ _ h => .inl h, Nat.le_refl _, Nat.le_refl _, Nat.le_refl _, rfl, rfl, rfl, fun _ _ _ => rfl, fun _ _ _ h e => (by rw [h] at e; cases e), fun _ _ _ => rfl, fun _ _ h => h⟩

theorem Ext.trans {f f' f'' : Mp} {c c' c'' : CW} {w w' w'' : World} (hr : HR f c w) (h : Ext f c w f' c' w') (k : Ext f' c' w' f'' c'' w'') : Ext f c w f'' c'' w'' := by
 have back : ∀ b x, f' b = some x → (c'.get b).isSome = true → b < c.next → f b = some x ∧ (c.get b).isSome = true := by
  intro b x hx hl hb
  refine ⟨(h.new b x hx).resolve_right (by omega), ?_⟩
  cases hc : c.get b with
  | some o => rfl
  | none => rw [h.dead b hb hc] at hl; cases hl
 refine ⟨h.sub.trans k.sub, ?_, Nat.le_trans h.next k.next, Nat.le_trans k.low h.low, Nat.le_trans h.size k.size, k.tape.trans h.tape, k.os.trans h.os, k.output.trans h.output, ?_, ?_, ?_, ?_⟩
 ·intro b x hx
  rcases k.new b x hx with h1 | h1
  ·exact h.new b x h1
  ·exact .inr (Nat.le_trans h.next h1)
 ·intro r hr' H
  have e1 := h.old r hr' fun b lz hb hf => Nat.lt_of_lt_of_le (H b lz hb hf) k.low
  rw [← e1]
  refine k.old r (Nat.lt_of_lt_of_le hr' h.size) fun b lz hb hf => ?_
  by_cases hn : b < c.next
  ·obtain ⟨h1, h2⟩ := back b _ hf hb hn
   exact H b lz h2 h1
  ·have hfn : f b = none := by
    cases e : f b with
    | none => rfl
    | some x => have := (hr.dom b x.1 x.2 e).2; omega
   rcases h.fresh b r lz hfn hf with h1 | ⟨b0, lz0, h1, h2, h3⟩
   ·omega
   ·have := H b0 lz0 h1 h2; have := k.low; omega
 ·intro b r lz hb hf
  cases e : f' b with
  | none =>
   rcases k.fresh b r lz e hf with h1 | ⟨b0, lz0, h1, h2, h3⟩
   ·exact .inl (Nat.le_trans h.size h1)
   ·by_cases hn : b0 < c.next
    ·obtain ⟨h4, h5⟩ := back b0 _ h2 h1 hn
     exact .inr ⟨b0, lz0, h5, h4, h3⟩
    ·have hfn : f b0 = none := by
      cases e : f b0 with
      | none => rfl
      | some x => have := (hr.dom b0 x.1 x.2 e).2; omega
     rcases h.fresh b0 r lz0 hfn h2 with h4 | ⟨b1, lz1, h4, h5, h6⟩
     ·exact .inl h4
     ·exact .inr ⟨b1, lz1, h4, h5, Nat.le_trans k.low h6⟩
  | some y =>
   have := k.sub b y e
   rw [hf] at this; cases this
   rcases h.fresh b r lz hb e with h4 | ⟨b1, lz1, h4, h5, h6⟩
   ·exact .inl h4
   ·exact .inr ⟨b1, lz1, h4, h5, Nat.le_trans k.low h6⟩
 ·intro b hb hl
  rw [k.kept b (Nat.lt_of_lt_of_le hb h.next) hl, h.kept b hb (Nat.lt_of_lt_of_le hl k.low)]
 ·intro b hb hd
  exact k.dead b (Nat.lt_of_lt_of_le hb h.next) (h.dead b hb hd)

/-- a draw of the tape -/
theorem Ext.drawn {f f' : Mp} {c c' : CW} {w w' : World} (n : Nat) (h : Ext f c { w with drawn := n } f' c' w') : Ext f c w f' c' w' :=
 ⟨h.sub, h.new, h.next, h.low, h.size, h.tape, h.os, h.output, h.old, h.fresh, h.kept, h.dead⟩
theorem HR.drawn {f : Mp} {c : CW} {w : World} (n : Nat) (h : HR f c w) : HR f c { w with drawn := n } := ⟨h.inj, h.obj, h.dom, h.live, h.glob⟩
end
end Go.Can
namespace Go.Can
noncomputable section
open Go
variable [Glob]
set_option linter.unusedSectionVars false

def upd (f : Mp) (b : Nat) (x : Nat × Z) : Mp := fun i => if i = b then some x else f i
theorem upd_same (f : Mp) (b : Nat) (x : Nat × Z) : upd f b x b = some x := by simp [upd]
theorem upd_other {f : Mp} {b i : Nat} {x : Nat × Z} (h : i ≠ b) : upd f b x i = f i := by simp [upd, h]
theorem HR.fresh {f : Mp} {c : CW} {w : World} (h : HR f c w) {b : Nat} (hb : c.next ≤ b) : f b = none := by
 cases e : f b with
 | none => rfl
 | some x => have := (h.dom b x.1 x.2 e).2; omega
theorem HR.sub_upd {f : Mp} {c : CW} {w : World} (h : HR f c w) (x : Nat × Z) : Sub f (upd f c.next x) := fun b y e => by
 have : b ≠ c.next := by have := (h.dom b y.1 y.2 e).2; omega
 rw [upd_other this]; exact e

/-- a new block -/
theorem new_HR {f : Mp} {c c' : CW} {w w' : World} {o : CObj} {o' : Obj} {lz : Z} (h : HR f c w) (hn : c'.next = c.next + 1) (hl : c'.low = c.low)
  (hg : ∀ b, c'.get b = if b = c.next then some o else c.get b) (ho : OR f lz o o') (hw : w' = { w with heap := w.heap.push o' }) :
  HR (upd f c.next (w.heap.size, lz)) c' w' ∧ Ext f c w (upd f c.next (w.heap.size, lz)) c' w' := by
 have hs := h.sub_upd (w.heap.size, lz)
 have hfn := h.fresh (Nat.le_refl c.next)
 have hold : ∀ r, r < w.heap.size → w'.heap[r]? = w.heap[r]? := fun r hr => by
  rw [hw]; show (w.heap.push o')[r]? = _; rw [Array.getElem?_push, if_neg (by omega)]
 have hnew : w'.heap[w.heap.size]? = some o' := by rw [hw]; show (w.heap.push o')[w.heap.size]? = _; simp
 have hsz : w'.heap.size = w.heap.size + 1 := by rw [hw]; show (w.heap.push o').size = _; simp
 refine ⟨⟨?_, ?_, ?_, ?_, h.glob.mono hs⟩, ⟨hs, ?_, by omega, by omega, by omega, by rw [hw], by rw [hw], by rw [hw], fun r hr _ => hold r hr, ?_, ?_, ?_⟩⟩
 ·intro b1 b2 r l1 l2 h1 h2 e1 e2
  by_cases c1 : b1 = c.next
  ·by_cases c2 : b2 = c.next
   ·rw [c1, c2]
   ·rw [c1, upd_same] at e1; rw [upd_other c2] at e2
    cases e1
    have := (h.dom b2 _ _ e2).1; omega
  ·by_cases c2 : b2 = c.next
   ·rw [c2, upd_same] at e2; rw [upd_other c1] at e1
    cases e2
    have := (h.dom b1 _ _ e1).1; omega
   ·rw [upd_other c1] at e1; rw [upd_other c2] at e2
    rw [hg, if_neg c1] at h1; rw [hg, if_neg c2] at h2
    exact h.inj b1 b2 r l1 l2 h1 h2 e1 e2
 ·intro b o1 r l e1 e2
  by_cases c1 : b = c.next
  ·rw [c1, upd_same] at e2
   rw [hg, if_pos c1] at e1
   cases e1; cases e2
   exact ⟨o', hnew, ho.mono hs⟩
  ·rw [upd_other c1] at e2
   rw [hg, if_neg c1] at e1
   obtain ⟨o2, h1, h2⟩ := h.obj b o1 r l e1 e2
   exact ⟨o2, by rw [hold r (h.dom b r l e2).1]; exact h1, h2.mono hs⟩
 ·intro b r l e
  by_cases c1 : b = c.next
  ·rw [c1, upd_same] at e; cases e; omega
  ·rw [upd_other c1] at e; have := h.dom b r l e; omega
 ·intro b e
  by_cases c1 : b = c.next
  ·omega
  ·rw [hg, if_neg c1] at e; have := h.live b e; omega
 ·intro b x e
  by_cases c1 : b = c.next
  ·right; omega
  ·rw [upd_other c1] at e; exact .inl e
 ·intro b r l e1 e2
  by_cases c1 : b = c.next
  ·rw [c1, upd_same] at e2; cases e2; exact .inl (Nat.le_refl _)
  ·rw [upd_other c1, e1] at e2; cases e2
 ·intro b hb _
  rw [hg, if_neg (by omega)]
 ·intro b hb e
  rw [hg, if_neg (by omega)]; exact e

/-- one block of the world turned -/
structure Mod (w w' : World) (r : Nat) (o' : Obj) : Prop where
 at_ : w'.heap[r]? = some o'
 other : ∀ j, j ≠ r → w'.heap[j]? = w.heap[j]?
 size : w'.heap.size = w.heap.size
 tape : w'.tape = w.tape
 os : w'.os = w.os
 output : w'.output = w.output
theorem Mod.trans {w w' w'' : World} {r : Nat} {o o' : Obj} (h : Mod w w' r o) (k : Mod w' w'' r o') : Mod w w'' r o' :=
 ⟨k.at_, fun j hj => (k.other j hj).trans (h.other j hj), k.size.trans h.size, k.tape.trans h.tape, k.os.trans h.os, k.output.trans h.output⟩

/-- a block that lives is turned -/
theorem set_HR {f : Mp} {c c' : CW} {w w' : World} {b r : Nat} {o : CObj} {o' : Obj} {lz : Z} (h : HR f c w) (hn : c'.next = c.next) (hl : c'.low = min c.low b)
  (hg : ∀ j, c'.get j = if j = b then some o else c.get j) (hb : (c.get b).isSome = true) (hf : f b = some (r, lz)) (ho : OR f lz o o') (hm : Mod w w' r o') :
  HR f c' w' ∧ Ext f c w f c' w' := by
 have hlv : ∀ j, (c'.get j).isSome = true ↔ (c.get j).isSome = true := fun j => by
  rw [hg]; by_cases e : j = b
  ·rw [if_pos e, e]; simp [hb]
  ·rw [if_neg e]
 refine ⟨⟨?_, ?_, ?_, ?_, h.glob⟩, ⟨Sub.refl f, fun _ _ e => .inl e, by omega, by rw [hl]; exact Nat.min_le_left _ _, by rw [hm.size]; exact Nat.le_refl _, hm.tape, hm.os, hm.output, ?_, fun _ _ _ e1 e2 => (by rw [e1] at e2; cases e2), ?_, ?_⟩⟩
 ·intro b1 b2 r l1 l2 h1 h2
  exact h.inj b1 b2 r l1 l2 ((hlv _).1 h1) ((hlv _).1 h2)
 ·intro j o1 r1 l e1 e2
  by_cases e : j = b
  ·rw [hg, if_pos e] at e1
   rw [e, hf] at e2
   cases e1; cases e2
   exact ⟨o', hm.at_, ho⟩
  ·rw [hg, if_neg e] at e1
   obtain ⟨o2, h1, h2⟩ := h.obj j o1 r1 l e1 e2
   have : r1 ≠ r := fun er => e (h.inj j b r1 l lz (by simp [e1]) hb e2 (by rw [er]; exact hf))
   exact ⟨o2, by rw [hm.other r1 this]; exact h1, h2⟩
 ·intro j r1 l e
  have := h.dom j r1 l e
  rw [hm.size, hn]; exact this
 ·intro j e
  rw [hn]; exact h.live j ((hlv j).1 e)
 ·intro r1 hr1 H
  refine hm.other r1 fun e => ?_
  have := H b lz hb (by rw [e]; exact hf)
  rw [hl] at this; omega
 ·intro j _ hlow
  rw [hg, if_neg (by rw [hl] at hlow; omega)]
 ·intro j _ e
  rw [hg]; by_cases ej : j = b
  ·rw [ej] at e; rw [e] at hb; cases hb
  ·rw [if_neg ej]; exact e

/-- a block that is no longer looked at -/
theorem kill_HR {f : Mp} {c c' : CW} {w : World} {b : Nat} (h : HR f c w) (hn : c'.next = c.next) (hl : c'.low = min c.low b)
  (hg : ∀ j, c'.get j = if j = b then none else c.get j) : HR f c' w ∧ Ext f c w f c' w := by
 have hlv : ∀ j, (c'.get j).isSome = true → (c.get j).isSome = true := fun j e => by
  rw [hg] at e; by_cases ej : j = b
  ·rw [if_pos ej] at e; cases e
  ·rw [if_neg ej] at e; exact e
 refine ⟨⟨?_, ?_, ?_, ?_, h.glob⟩, ⟨Sub.refl f, fun _ _ e => .inl e, by omega, by rw [hl]; exact Nat.min_le_left _ _, Nat.le_refl _, rfl, rfl, rfl, fun _ _ _ => rfl, fun _ _ _ e1 e2 => (by rw [e1] at e2; cases e2), ?_, ?_⟩⟩
 ·intro b1 b2 r l1 l2 h1 h2
  exact h.inj b1 b2 r l1 l2 (hlv _ h1) (hlv _ h2)
 ·intro j o1 r1 l e1 e2
  by_cases e : j = b
  ·rw [hg, if_pos e] at e1; cases e1
  ·rw [hg, if_neg e] at e1; exact h.obj j o1 r1 l e1 e2
 ·intro j r1 l e
  have := h.dom j r1 l e; rw [hn]; exact this
 ·intro j e
  rw [hn]; exact h.live j (hlv j e)
 ·intro j _ hlow
  rw [hg, if_neg (by rw [hl] at hlow; omega)]
 ·intro j _ e
  rw [hg]; by_cases ej : j = b
  ·rw [if_pos ej]
  ·rw [if_neg ej]; exact e

/-! ### The world's own runs -/
section
variable {P : Program} {w : World}
theorem cell_of {r o : Nat} {cs : Array Value} {e : TypeId} {fr : Nat × Nat} (h : w.heap[r]? = some (.cells cs e fr)) : w.cell? ⟨r, o, none⟩ = cs[o]? := by
 simp [World.cell?, h]
theorem add_none (r o i : Nat) : (⟨r, o, none⟩ : Addr).add i = ⟨r, o + i, none⟩ := by
 unfold Addr.add; split
 ·next e => subst e; rfl
 ·rfl
theorem loadCellsFrom_run {r o : Nat} {cs : Array Value} {e : TypeId} {fr : Nat × Nat} (h : w.heap[r]? = some (.cells cs e fr)) :
  ∀ (n i : Nat) (acc : Array Value), o + i + n ≤ cs.size → (loadCellsFrom ⟨r, o, none⟩ i n acc).run P w = .ok (acc ++ ((cs.toList.drop (o + i)).take n).toArray) w := by
 intro n
 induction n with
 | zero => intro i acc _; simp [loadCellsFrom]
 | succ n ih =>
  intro i acc hle
  have hlt : o + i < cs.size := by omega
  have hc : w.cell? ((⟨r, o, none⟩ : Addr).add i) = some cs[o + i] := by rw [add_none, cell_of h]; simp [hlt]
  have e1 : (loadCellsFrom ⟨r, o, none⟩ i (n + 1) acc).run P w = (loadCellsFrom ⟨r, o, none⟩ (i + 1) n (acc.push cs[o + i])).run P w := by
   simp [loadCellsFrom, load, Sem.run, hc, Result.andThen]
  rw [e1, ih (i + 1) _ (by omega)]
  congr 1
  apply Array.toList_inj.1
  have : (cs.toList.drop (o + i)).take (n + 1) = cs[o + i] :: (cs.toList.drop (o + (i + 1))).take n := by
   rw [List.drop_eq_getElem_cons (by simpa using hlt)]
   simp [Nat.add_assoc]
  rw [this]; simp
theorem loadCells_run {r o n : Nat} {cs : Array Value} {e : TypeId} {fr : Nat × Nat} (h : w.heap[r]? = some (.cells cs e fr)) (hle : o + n ≤ cs.size) :
  (loadCells ⟨r, o, none⟩ n).run P w = .ok ((cs.toList.drop o).take n).toArray w := by
 unfold loadCells
 rw [loadCellsFrom_run h n 0 #[] (by omega)]; simp

def oneB : Value → Bool
 | .agg _ | .tuple _ => false
 | _ => true
theorem setCell_mod {r o : Nat} {cs : Array Value} {e : TypeId} {fr : Nat × Nat} (v : Value) (h : w.heap[r]? = some (.cells cs e fr)) :
  Mod w (w.setCell ⟨r, o, none⟩ v) r (.cells (cs.setIfInBounds o v) e fr) := by
 refine ⟨?_, fun j hj => ?_, ?_, rfl, rfl, rfl⟩
 ·show (w.heap.modify r _)[r]? = _
  rw [Array.getElem?_modify, if_pos rfl, h]; rfl
 ·show (w.heap.modify r _)[j]? = _
  rw [Array.getElem?_modify, if_neg (by omega)]
 ·show (w.heap.modify r _).size = _
  simp
theorem store_run {r o : Nat} {cs : Array Value} {e : TypeId} {fr : Nat × Nat} {v : Value} (hv : oneB v = true) (h : w.heap[r]? = some (.cells cs e fr)) (ho : o < cs.size) (hfr : ¬ (fr.1 ≤ o ∧ o < fr.2)) :
  (store ⟨r, o, none⟩ v).run P w = .ok () (w.setCell ⟨r, o, none⟩ v) := by
 have hc : w.cell? ⟨r, o, none⟩ = some cs[o] := by rw [cell_of h]; simp [ho]
 have hz : w.frozen? ⟨r, o, none⟩ = false := by simp [World.frozen?, h]; intro h1; have := fun h2 => hfr ⟨h1, h2⟩; omega
 cases v <;> first | (simp [oneB] at hv; done) | simp [store, Sem.run, hc, hz]

theorem storeCells_run {r o : Nat} {e : TypeId} {fr : Nat × Nat} : ∀ (vs : List Value) (i : Nat) (w : World) (cs : Array Value), vs.all oneB = true → w.heap[r]? = some (.cells cs e fr) → o + i + vs.length ≤ cs.size →
  (∀ j, o + i ≤ j → j < o + i + vs.length → ¬ (fr.1 ≤ j ∧ j < fr.2)) →
  ∃ w' cs', (storeCells ⟨r, o, none⟩ vs i).run P w = .ok () w' ∧ Mod w w' r (.cells cs' e fr) ∧ cs'.size = cs.size ∧
   ∀ j, cs'[j]? = if o + i ≤ j ∧ j < o + i + vs.length then vs[j - (o + i)]? else cs[j]? := by
 intro vs
 induction vs with
 | nil => intro i w cs _ h _ _; exact ⟨w, cs, rfl, ⟨h, fun _ _ => rfl, rfl, rfl, rfl, rfl⟩, rfl, fun j => by rw [if_neg (by simp only [List.length_nil]; omega)]⟩
 | cons v vs ih =>
  intro i w cs hv h hle hfr
  simp only [List.all_cons, Bool.and_eq_true] at hv
  simp only [List.length_cons] at hle hfr
  have hst := store_run (P := P) (o := o + i) hv.1 h (by omega) (hfr (o + i) (by omega) (by omega))
  have hm := setCell_mod (o := o + i) v h
  obtain ⟨w', cs', h1, h2, h3, h4⟩ := ih (i + 1) (w.setCell ⟨r, o + i, none⟩ v) (cs.setIfInBounds (o + i) v) hv.2 hm.at_ (by rw [Array.size_setIfInBounds]; omega) (fun j a b => hfr j (by omega) (by omega))
  refine ⟨w', cs', ?_, hm.trans h2, by rw [h3]; simp, fun j => ?_⟩
  ·show ((store ((⟨r, o, none⟩ : Addr).add i) v).bind fun _ => storeCells ⟨r, o, none⟩ vs (i + 1)).run P w = _
   have : ((store ((⟨r, o, none⟩ : Addr).add i) v).bind fun _ => storeCells ⟨r, o, none⟩ vs (i + 1)) = (do store ((⟨r, o, none⟩ : Addr).add i) v; storeCells ⟨r, o, none⟩ vs (i + 1)) := rfl
   rw [this, Sem.run_bind, add_none, hst]; exact h1
  ·rw [h4]
   simp only [List.length_cons]
   by_cases e1 : j = o + i
   ·subst e1
    rw [if_neg (by omega), if_pos (by omega), Nat.sub_self, Array.getElem?_setIfInBounds_self, if_pos (by omega)]
    rfl
   ·by_cases e2 : o + i ≤ j ∧ j < o + i + (vs.length + 1)
    ·rw [if_pos (by omega), if_pos e2]
     have : j - (o + i) = (j - (o + (i + 1))) + 1 := by omega
     rw [this]; simp
    ·rw [if_neg (by omega), if_neg e2, Array.getElem?_setIfInBounds, if_neg (by omega)]
end
end
end Go.Can
namespace Go.Can
noncomputable section
open Go
variable [Glob]
set_option linter.unusedSectionVars false

/-! ### Operands -/
def evK (tm : T Value) (x : Operand) (k : Value → Bool) : Bool := match x with
 | .tmp t => match tm.get t with
  | some v => k v
  | none => k undef
 | .const v => match closedB v with
  | true => k v
  | false => false
 | .func f => k (.func (.func f) #[] #[])
 | .global g => match Nat.ble (g+1) Glob.num with
  | true => k (.pointer (some ⟨g, 0, none⟩))
  | false => false
def EvR (tm : T Value) (x : Operand) (v : Value) : Prop := ∀ (f : Mp) (nt : Nat) (a : Act), TR f tm nt a.tmps → VR f v (a.eval x)
theorem evK_ok {tm : T Value} {x : Operand} {k : Value → Bool} (h : evK tm x k = true) : ∃ v, k v = true ∧ EvR tm x v := by
 cases x with
 | tmp t =>
  simp only [evK] at h
  split at h
  ·next v hv => exact ⟨v, h, fun f nt a ht => by have := ht.get t; rwa [hv] at this⟩
  ·next hv => exact ⟨undef, h, fun f nt a ht => by have := ht.get t; rwa [hv] at this⟩
 | const v =>
  simp only [evK] at h
  split at h
  ·next hc => exact ⟨v, h, fun f nt a _ => .of_closed hc⟩
  ·cases h
 | global g =>
  simp only [evK] at h
  split at h
  ·next hg => exact ⟨_, h, fun f nt a ht => .ptr 0 none (ht.glob g (Nat.le_of_ble_eq_true hg))⟩
  ·cases h
 | func g => exact ⟨_, h, fun f nt a _ => .func g .nil .nil⟩

def evsK (tm : T Value) : List Operand → List Value → (List Value → Bool) → Bool
 | [], acc, k => revK acc [] k
 | x :: l, acc, k => evK tm x fun v => evsK tm l (v :: acc) k
def EvsR (tm : T Value) (l : List Operand) (vs : List Value) : Prop := ∀ (f : Mp) (nt : Nat) (a : Act), TR f tm nt a.tmps → LR f vs (l.map a.eval)
theorem evsK_ok' {tm : T Value} : ∀ {l : List Operand} {acc : List Value} {k : List Value → Bool}, evsK tm l acc k = true → ∃ vs, k (acc.reverse ++ vs) = true ∧ EvsR tm l vs
 | [], acc, k, h => ⟨[], by simpa [evsK, revK_eq] using h, fun _ _ _ _ => .nil⟩
 | x :: l, acc, k, h => by
  obtain ⟨v, h1, hv⟩ := evK_ok h
  obtain ⟨vs, h2, hvs⟩ := evsK_ok' h1
  exact ⟨v :: vs, by simpa using h2, fun f nt a ht => .cons (hv f nt a ht) (hvs f nt a ht)⟩
theorem evsK_ok {tm : T Value} {l : List Operand} {k : List Value → Bool} (h : evsK tm l [] k = true) : ∃ vs, k vs = true ∧ EvsR tm l vs := by
 simpa using evsK_ok' h

def evoK (tm : T Value) (x : Option Operand) (k : Option Value → Bool) : Bool := match x with
 | none => k none
 | some x => evK tm x fun v => k (some v)
inductive OptR (R : Value → Value → Prop) : Option Value → Option Value → Prop
 | no : OptR R none none
 | yes {v v' : Value} (h : R v v') : OptR R (some v) (some v')
def EvoR (tm : T Value) (x : Option Operand) (v : Option Value) : Prop := ∀ (f : Mp) (nt : Nat) (a : Act), TR f tm nt a.tmps → OptR (VR f) v (x.map a.eval)
theorem evoK_ok {tm : T Value} {x : Option Operand} {k : Option Value → Bool} (h : evoK tm x k = true) : ∃ v, k v = true ∧ EvoR tm x v := by
 cases x with
 | none => exact ⟨none, h, fun _ _ _ _ => .no⟩
 | some x =>
  obtain ⟨v, h1, hv⟩ := evK_ok h
  exact ⟨some v, h1, fun f nt a ht => .yes (hv f nt a ht)⟩

def evpK (tm : T Value) : List (Nat × Operand) → List (Nat × Value) → (List (Nat × Value) → Bool) → Bool
 | [], acc, k => k acc
 | (i, x) :: l, acc, k => evK tm x fun v => evpK tm l ((i, v) :: acc) k
inductive PR (f : Mp) : List (Nat × Value) → List (Nat × Value) → Prop
 | nil : PR f [] []
 | cons (i : Nat) {v v' : Value} {l l' : List (Nat × Value)} (h : VR f v v') (t : PR f l l') : PR f ((i, v) :: l) ((i, v') :: l')
theorem PR.append {f : Mp} : ∀ {l l' m m' : List (Nat × Value)}, PR f l l' → PR f m m' → PR f (l ++ m) (l' ++ m')
 | _, _, _, _, .nil, h => h
 | _, _, _, _, .cons i h t, k => .cons i h (PR.append t k)
theorem evpK_ok' {tm : T Value} : ∀ {l : List (Nat × Operand)} {acc : List (Nat × Value)} {k : List (Nat × Value) → Bool}, evpK tm l acc k = true →
  ∃ ps, k (ps.reverse ++ acc) = true ∧ ∀ (f : Mp) (nt : Nat) (a : Act), TR f tm nt a.tmps → PR f ps (l.map fun x => (x.1, a.eval x.2))
 | [], acc, k, h => ⟨[], by simpa [evpK] using h, fun _ _ _ _ => .nil⟩
 | (i, x) :: l, acc, k, h => by
  obtain ⟨v, h1, hv⟩ := evK_ok h
  obtain ⟨vs, h2, hvs⟩ := evpK_ok' h1
  exact ⟨(i, v) :: vs, by simpa using h2, fun f nt a ht => .cons i (hv f nt a ht) (hvs f nt a ht)⟩

/-! ### Types and memory -/
def aggK (P : Program) (t : TypeId) (k : Bool → Bool) : Bool := match P.underlying t with
 | some (.struct _) => k true
 | some (.array _ _) => k true
 | some _ => k false
 | none => false
section
variable {P : Program} {w : World}
theorem run_und {t : TypeId} {d : TypeDesc} (h : P.underlying t = some d) (w : World) : (underlying t).run P w = .ok d w := by simp [underlying, h]
theorem run_info {t : TypeId} {i : TypeInfo} (h : P.info? t = some i) (w : World) : (typeInfo t).run P w = .ok i w := by simp [typeInfo, h]
theorem run_size {t : TypeId} {i : TypeInfo} (h : P.info? t = some i) (w : World) : (sizeOf t).run P w = .ok i.size w := by simp [sizeOf, run_info h]
theorem run_zero {t : TypeId} {i : TypeInfo} {z : Value} (h : P.info? t = some i) (hz : i.zero = some z) (w : World) : (zeroValue t).run P w = .ok z w := by simp [zeroValue, run_info h, hz]
theorem aggK_ok {t : TypeId} {k : Bool → Bool} (h : aggK P t k = true) : ∃ b, k b = true ∧ ∀ w, (isAgg t).run P w = .ok b w := by
 unfold aggK at h
 split at h
 ·next hu => exact ⟨true, h, fun w => by simp [isAgg, run_und hu]⟩
 ·next hu => exact ⟨true, h, fun w => by simp [isAgg, run_und hu]⟩
 ·next d h1 h2 hu =>
  refine ⟨false, h, fun w => ?_⟩
  cases d <;> simp_all [isAgg, run_und hu]
 ·cases h
end

def cload (P : Program) (t : TypeId) (a : Addr) (c : CW) (k : Value → Bool) : Bool :=
 match a.spot with
 | some _ => false
 | none => match c.get a.block with
  | some (.cells l _ _ _) => aggK P t fun
   | true => szK P t fun n => takeK l a.off n [] fun vs => k (.agg vs.toArray)
   | false => getK l a.off k
  | _ => false
theorem cload_ok {P : Program} {t : TypeId} {a : Addr} {c : CW} {k : Value → Bool} (h : cload P t a c k = true) :
  ∃ v, k v = true ∧ a.spot = none ∧ ∀ (f : Mp) (w : World) (r : Nat) (lz : Z), HR f c w → f a.block = some (r, lz) →
   ∃ v', (loadVar t ⟨r, a.off, none⟩).run P w = .ok v' w ∧ VR f v v' := by
 unfold cload at h
 split at h
 ·cases h
 ·next hs =>
  split at h
  ·next l e fr lo hg =>
   obtain ⟨b, h1, hagg⟩ := aggK_ok h
   cases b with
   | true =>
    simp only at h1
    obtain ⟨i, hi, h2⟩ := szK_ok h1
    obtain ⟨hle, h3⟩ := takeK_ok h2
    refine ⟨_, h3, hs, fun f w r lz hr hf => ?_⟩
    obtain ⟨o', ho, hor⟩ := hr.obj _ _ _ _ hg hf
    cases o' <;> simp only [OR] at hor
    rename_i cs e' fr'
    have hc := hor.2.2.2
    refine ⟨.agg ((cs.toList.drop a.off).take i.size).toArray, ?_, ?_⟩
    ·have hl2 : a.off + i.size ≤ cs.size := Nat.le_trans hle hc.le
     simp [loadVar, hagg, run_size hi, loadCells_run ho hl2]
    ·refine .agg ?_
     simp only [List.reverse_nil, List.nil_append]
     refine .of_get ?_ fun j v hv => ?_
     ·simp; have := hc.le; omega
     ·rw [List.getElem?_take] at hv
      split at hv
      ·next hlt =>
       rw [List.getElem?_drop] at hv
       obtain ⟨v', h4, h5⟩ := hc.get _ _ hv
       exact ⟨v', by rw [List.getElem?_take, if_pos hlt, List.getElem?_drop]; simpa using h4, h5⟩
      ·cases hv
   | false =>
    simp only at h1
    obtain ⟨v, hv, h2⟩ := getK_ok h1
    refine ⟨v, h2, hs, fun f w r lz hr hf => ?_⟩
    obtain ⟨o', ho, hor⟩ := hr.obj _ _ _ _ hg hf
    cases o' <;> simp only [OR] at hor
    rename_i cs e' fr'
    obtain ⟨v', h4, h5⟩ := hor.2.2.2.get _ _ hv
    refine ⟨v', ?_, h5⟩
    have hcell : w.cell? ⟨r, a.off, none⟩ = some v' := by rw [cell_of ho]; exact h4
    simp [loadVar, hagg, load, Sem.run, hcell]
  ·cases h

def lenK (l : List Value) (n : Nat) (k : Bool) : Bool := match Nat.beq l.length n with
 | true => k
 | false => false
theorem lenK_ok {l : List Value} {n : Nat} {k : Bool} (h : lenK l n k = true) : l.length = n ∧ k = true := by
 unfold lenK at h
 split at h
 ·next e => exact ⟨Nat.eq_of_beq_eq_true e, h⟩
 ·cases h

/-- the cells from off on, n of them, are not frozen -/
def thawB (fr : Nat × Nat) (off n : Nat) : Bool := match Nat.ble fr.2 off with
 | true => true
 | false => Nat.ble (off + n) fr.1
theorem thawB_ok {fr : Nat × Nat} {off n : Nat} (h : thawB fr off n = true) : ∀ j, off ≤ j → j < off + n → ¬ (fr.1 ≤ j ∧ j < fr.2) := by
 unfold thawB at h
 split at h
 ·next e => have := Nat.le_of_ble_eq_true e; intro j _ _; omega
 ·have := Nat.le_of_ble_eq_true h; intro j _ _; omega

def cstoreL (a : Addr) (vs : List Value) (c : CW) (k : CW → Bool) : Bool :=
 match a.spot with
 | some _ => false
 | none => match c.get a.block with
  | some (.cells l e fr lo) => match vs.all oneB && thawB fr a.off vs.length with
   | true => overK l a.off vs [] fun l => c.set a.block (some (.cells l e fr lo)) k
   | false => false
  | _ => false
theorem oneB_VR {f : Mp} {v v' : Value} (h : VR f v v') : oneB v' = oneB v := by cases h <;> rfl
theorem oneB_LR {f : Mp} : ∀ {l l' : List Value}, LR f l l' → l'.all oneB = l.all oneB
 | _, _, .nil => rfl
 | _, _, .cons h t => by simp [oneB_VR h, oneB_LR t]
theorem cstoreL_ok {P : Program} {a : Addr} {vs : List Value} {c : CW} {k : CW → Bool} (h : cstoreL a vs c k = true) :
  ∃ c', k c' = true ∧ a.spot = none ∧ ∀ (f : Mp) (w : World) (r : Nat) (lz : Z) (vs' : List Value), HR f c w → f a.block = some (r, lz) → LR f vs vs' →
   ∃ w', (storeCells ⟨r, a.off, none⟩ vs').run P w = .ok () w' ∧ HR f c' w' ∧ Ext f c w f c' w' := by
 unfold cstoreL at h
 split at h
 ·cases h
 ·next hs =>
  split at h
  ·next l e fr lo hg =>
   split at h
   ·next hall =>
    simp only [Bool.and_eq_true] at hall
    obtain ⟨hle, h1⟩ := overK_ok h
    obtain ⟨c', h2, hn, hl, hget⟩ := CW.set_ok h1
    refine ⟨c', h2, hs, fun f w r lz vs' hr hf hv => ?_⟩
    obtain ⟨o', ho, hor⟩ := hr.obj _ _ _ _ hg hf
    cases o' <;> simp only [OR] at hor
    rename_i cs e' fr'
    obtain ⟨rfl, rfl, hz, hc⟩ := hor
    have hlen := hv.length
    obtain ⟨w', cs', h3, h4, h5, h6⟩ := storeCells_run (P := P) (o := a.off) vs' 0 w cs (by rw [oneB_LR hv]; exact hall.1) ho (by have := hc.le; omega)
     (fun j a1 b1 => thawB_ok hall.2 j (by omega) (by omega))
    obtain ⟨g1, g2⟩ := set_HR hr hn hl hget (by simp [hg]) hf (o' := .cells cs' e' fr') (by
     simp only [List.reverse_nil, List.nil_append]
     refine ⟨rfl, rfl, by rw [h5]; exact hz, by rw [over_length hle, h5]; exact hc.le, fun z => by rw [over_length hle, h5]; exact hc.eq z, fun j v hj => ?_⟩
     rw [over_get hle] at hj
     rw [h6]
     split at hj
     ·next hin =>
      obtain ⟨v', a1, a2⟩ := hv.get hj
      exact ⟨v', by rw [if_pos (by omega)]; simpa using a1, a2⟩
     ·next hin =>
      obtain ⟨v', a1, a2⟩ := hc.get j v hj
      exact ⟨v', by rw [if_neg (by omega)]; exact a1, a2⟩) h4
    exact ⟨w', h3, g1, g2⟩
   ·cases h
  ·cases h

def cstore (P : Program) (t : TypeId) (a : Addr) (v : Value) (c : CW) (k : CW → Bool) : Bool :=
 cellsOf v fun vs => szK P t fun n => lenK vs n (cstoreL a vs c k)
theorem cstore_ok {P : Program} {t : TypeId} {a : Addr} {v : Value} {c : CW} {k : CW → Bool} (h : cstore P t a v c k = true) :
  ∃ c', k c' = true ∧ a.spot = none ∧ ∀ (f : Mp) (w : World) (r : Nat) (lz : Z) (v' : Value), HR f c w → f a.block = some (r, lz) → VR f v v' →
   ∃ w', (storeVar t ⟨r, a.off, none⟩ v').run P w = .ok () w' ∧ HR f c' w' ∧ Ext f c w f c' w' := by
 unfold cstore at h
 rw [cellsOf_eq] at h
 obtain ⟨i, hi, h1⟩ := szK_ok h
 obtain ⟨hl, h2⟩ := lenK_ok h1
 obtain ⟨c', h3, hs, hh⟩ := cstoreL_ok (P := P) h2
 refine ⟨c', h3, hs, fun f w r lz v' hr hf hv => ?_⟩
 have hc := hv.cells
 obtain ⟨w', h4, h5, h6⟩ := hh f w r lz _ hr hf hc
 refine ⟨w', ?_, h5, h6⟩
 have : v'.cells.size = i.size := by have := hc.length; simp at this hl; omega
 simp [storeVar, run_size hi, this, h4]

def addK (a : Addr) (n : Nat) (k : Addr → Bool) : Bool := match a.spot with
 | some _ => false
 | none => natK (a.off + n) fun o => k ⟨a.block, o, none⟩
theorem addK_ok {a : Addr} {n : Nat} {k : Addr → Bool} (h : addK a n k = true) : a.spot = none ∧ k ⟨a.block, a.off + n, none⟩ = true := by
 unfold addK at h
 split at h
 ·cases h
 ·next hs => rw [natK_eq] at h; exact ⟨hs, h⟩
end
end Go.Can
namespace Go.Can
noncomputable section
open Go
variable [Glob]
set_option linter.unusedSectionVars false

/-- What an operation comes to: v, and the canonical heap c'. -/
def OpS (P : Program) (tm : T Value) (c : CW) (s : Act → Sem Next) (v : Value) (c' : CW) : Prop :=
 ∀ (f : Mp) (nt : Nat) (a : Act) (w : World), TR f tm nt a.tmps → HR f c w →
  ∃ f' v' w', ((s a).run P w = .ok (.value v') w' ∨ ((s a).run P w = .ok .skip w' ∧ v' = undef)) ∧ HR f' c' w' ∧ Ext f c w f' c' w' ∧ VR f' v v'
theorem OpS.quiet {P : Program} {tm : T Value} {c : CW} {s : Act → Sem Next} {v : Value}
  (h : ∀ (f : Mp) (nt : Nat) (a : Act) (w : World), TR f tm nt a.tmps → HR f c w → ∃ v', (s a).run P w = .ok (.value v') w ∧ VR f v v') : OpS P tm c s v c :=
 fun f nt a w ht hr => let ⟨v', h1, h2⟩ := h f nt a w ht hr; ⟨f, v', w, .inl h1, hr, Ext.refl _ _ _, h2⟩

/-- a computation that asks the world nothing -/
def prun {α : Type} (P : Program) : Sem α → (α → Bool) → Bool
 | .pure a, k => k a
 | .program j, k => prun P (j P) k
 | .mark _ j, k => prun P j k
 | _, _ => false
theorem prun_ok {α : Type} {P : Program} : ∀ {s : Sem α} {k : α → Bool}, prun P s k = true → ∃ x, k x = true ∧ ∀ w, s.run P w = .ok x w := by
 intro s
 induction s with
 | pure a => intro k h; exact ⟨a, h, fun _ => rfl⟩
 | program j ih => intro k h; obtain ⟨x, h1, h2⟩ := ih P h; exact ⟨x, h1, fun w => by simp only [Sem.run]; exact h2 w⟩
 | mark m j ih => intro k h; obtain ⟨x, h1, h2⟩ := ih h; exact ⟨x, h1, fun w => by simp only [Sem.run]; exact h2 w⟩
 | _ => intro k h; simp [prun] at h

def closedK (v : Value) (k : Bool) : Bool := match closedB v with
 | true => k
 | false => false
theorem closedK_ok {v : Value} {k : Bool} (h : closedK v k = true) : closedB v = true ∧ k = true := by
 unfold closedK at h; split at h
 ·next e => exact ⟨e, h⟩
 ·cases h

/-! ### New blocks -/
def newCells (c : CW) (vs : List Value) (t : TypeId) (lo : Option Nat) (k : Nat → CW → Bool) : Bool := c.new (.cells vs t (0, 0) lo) k
theorem newCells_ok {c : CW} {vs : List Value} {t : TypeId} {lo : Option Nat} {k : Nat → CW → Bool} (h : newCells c vs t lo k = true) :
  ∃ c', k c.next c' = true ∧ c'.low = c.low ∧ c'.next = c.next + 1 ∧ (∀ b, c'.get b = if b = c.next then some (.cells vs t (0, 0) lo) else c.get b) ∧ ∀ (f : Mp) (w : World) (cs : Array Value) (z : Z), HR f c w → LZ lo z cs.size → CellsR f vs z cs →
   HR (upd f c.next (w.heap.size, z)) c' { w with heap := w.heap.push (.cells cs t) } ∧ Ext f c w (upd f c.next (w.heap.size, z)) c' { w with heap := w.heap.push (.cells cs t) } := by
 obtain ⟨c', h1, hn, hl, hg⟩ := CW.new_ok h
 exact ⟨c', h1, hl, hn, hg, fun f w cs z hr hz hc => new_HR (o' := .cells cs t) hr hn hl hg ⟨rfl, rfl, hz, hc⟩ rfl⟩
theorem CellsR.of_LR {f : Mp} {vs : List Value} {z : Z} {cs : Array Value} (h : LR f vs cs.toList) : CellsR f vs z cs :=
 ⟨by have := h.length; simp at this; omega, fun _ => by have := h.length; simp at this; omega, fun i v e => by obtain ⟨v', a, b⟩ := h.get e; exact ⟨v', by simpa using a, b⟩⟩
theorem newExact_ok {c : CW} {vs : List Value} {t : TypeId} {k : Nat → CW → Bool} (h : newCells c vs t none k = true) :
  ∃ c', k c.next c' = true ∧ ∀ (f : Mp) (w : World) (cs : Array Value), HR f c w → LR f vs cs.toList →
   HR (upd f c.next (w.heap.size, none)) c' { w with heap := w.heap.push (.cells cs t) } ∧ Ext f c w (upd f c.next (w.heap.size, none)) c' { w with heap := w.heap.push (.cells cs t) } := by
 obtain ⟨c', h1, _, _, _, h2⟩ := newCells_ok h
 exact ⟨c', h1, fun f w cs hr hc => h2 f w cs none hr (.inl ⟨rfl, rfl⟩) (.of_LR hc)⟩

section ops
variable {P : Program} {tm : T Value} {c : CW}

def cAlloc (P : Program) (t : TypeId) (c : CW) (k : Value → CW → Bool) : Bool :=
 zeroK P t fun z => cellsOf z fun vs => newCells c vs t none fun b c => k (.pointer (some ⟨b, 0, none⟩)) c
theorem cAlloc_ok {t : TypeId} {k : Value → CW → Bool} (h : cAlloc P t c k = true) :
  ∃ v c', k v c' = true ∧ OpS P tm c (fun _ => do pure (.value (← Instr.alloc t true (.tuple #[])))) v c' := by
 obtain ⟨i, z, hi, hz, hcl, h1⟩ := zeroK_ok h
 rw [cellsOf_eq] at h1
 obtain ⟨c', h2, hh⟩ := newExact_ok h1
 refine ⟨_, c', h2, fun f nt a w ht hr => ?_⟩
 obtain ⟨g1, g2⟩ := hh f w z.cells hr (VR.of_closed hcl).cells
 exact ⟨_, _, _, .inl (by simp [Instr.alloc, run_zero hi hz, newVar, newRow, Result.andThen]), g1, g2, .ptr 0 none (upd_same _ _ _)⟩

def cBox (t : TypeId) (x : Operand) (tm : T Value) (c : CW) (k : Value → CW → Bool) : Bool :=
 evK tm x fun v => cellsOf v fun vs => newCells c vs t none fun b c => k (.pointer (some ⟨b, 0, none⟩)) c
theorem cBox_ok {t : TypeId} {x : Operand} {k : Value → CW → Bool} (h : cBox t x tm c k = true) :
  ∃ v c', k v c' = true ∧ OpS P tm c (fun a => do pure (.value (← Instr.box t (a.eval x)))) v c' := by
 obtain ⟨v, h1, hv⟩ := evK_ok h
 rw [cellsOf_eq] at h1
 obtain ⟨c', h2, hh⟩ := newExact_ok h1
 refine ⟨_, c', h2, fun f nt a w ht hr => ?_⟩
 obtain ⟨g1, g2⟩ := hh f w (a.eval x).cells hr (hv f nt a ht).cells
 exact ⟨_, _, _, .inl (by simp [Instr.box, newVar, newRow, Result.andThen]), g1, g2, .ptr 0 none (upd_same _ _ _)⟩

def cPtr (v : Value) (k : Addr → Bool) : Bool := match v with
 | .pointer (some a) => k a
 | _ => false
theorem cPtr_ok {v : Value} {k : Addr → Bool} (h : cPtr v k = true) : ∃ a, v = .pointer (some a) ∧ k a = true ∧
  ∀ (f : Mp) (v' : Value), VR f v v' → ∃ r lz, f a.block = some (r, lz) ∧ v' = .pointer (some ⟨r, a.off, a.spot⟩) := by
 unfold cPtr at h
 split at h
 ·next a => exact ⟨a, rfl, h, fun f v' hv => by cases hv; next hb => exact ⟨_, _, hb, rfl⟩⟩
 ·cases h

def cLoad (P : Program) (t : TypeId) (x : Operand) (tm : T Value) (c : CW) (k : Value → CW → Bool) : Bool :=
 evK tm x fun v => cPtr v fun a => cload P t a c fun v => k v c
theorem cLoad_ok {t : TypeId} {x : Operand} {k : Value → CW → Bool} (h : cLoad P t x tm c k = true) :
  ∃ v c', k v c' = true ∧ OpS P tm c (fun a => do pure (.value (← Instr.loadAt t (a.eval x)))) v c' := by
 obtain ⟨v, h1, hv⟩ := evK_ok h
 obtain ⟨a, rfl, h2, hp⟩ := cPtr_ok h1
 obtain ⟨v, h3, hs, hl⟩ := cload_ok h2
 refine ⟨v, c, h3, OpS.quiet fun f nt b w ht hr => ?_⟩
 obtain ⟨r, lz, hf, he⟩ := hp f _ (hv f nt b ht)
 obtain ⟨v', h4, h5⟩ := hl f w r lz hr hf
 exact ⟨v', by simp [he, Instr.loadAt, Instr.sureAddr, hs, h4], h5⟩

def cStore (P : Program) (t : TypeId) (x y : Operand) (tm : T Value) (c : CW) (k : Value → CW → Bool) : Bool :=
 evK tm x fun v => cPtr v fun a => evK tm y fun v => cstore P t a v c fun c => k undef c
theorem cStore_ok {t : TypeId} {x y : Operand} {k : Value → CW → Bool} (h : cStore P t x y tm c k = true) :
  ∃ v c', k v c' = true ∧ OpS P tm c (fun a => do Instr.storeAt t (a.eval x) (a.eval y); pure .skip) v c' := by
 obtain ⟨v, h1, hv⟩ := evK_ok h
 obtain ⟨a, rfl, h2, hp⟩ := cPtr_ok h1
 obtain ⟨y', h3, hy⟩ := evK_ok h2
 obtain ⟨c', h4, hs, hh⟩ := cstore_ok h3
 refine ⟨undef, c', h4, fun f nt b w ht hr => ?_⟩
 obtain ⟨r, lz, hf, he⟩ := hp f _ (hv f nt b ht)
 obtain ⟨w', h5, h6, h7⟩ := hh f w r lz _ hr hf (hy f nt b ht)
 exact ⟨f, undef, w', .inr ⟨by simp [he, Instr.storeAt, Instr.sureAddr, hs, h5], rfl⟩, h6, h7, .tuple .nil⟩

def nthF : List Field → Nat → Option Field
 | f :: _, 0 => some f
 | _ :: l, n+1 => nthF l n
 | [], _ => none
theorem nthF_eq : ∀ (l : List Field) (n : Nat), nthF l n = l[n]?
 | f :: _, 0 => rfl
 | _ :: l, n+1 => by simp [nthF, nthF_eq l n]
 | [], _ => by simp [nthF]
def fieldK (P : Program) (s : TypeId) (n : Nat) (k : Field → Bool) : Bool := match P.underlying s with
 | some (.struct fs) => match nthF fs.toList n with
  | some f => k f
  | none => false
 | _ => false
theorem fieldK_ok {s : TypeId} {n : Nat} {k : Field → Bool} (h : fieldK P s n k = true) : ∃ fs f, P.underlying s = some (.struct fs) ∧ fs[n]? = some f ∧ k f = true := by
 unfold fieldK at h
 split at h
 ·next fs hu =>
  split at h
  ·next f hf => rw [nthF_eq] at hf; exact ⟨fs, f, hu, by simpa using hf, h⟩
  ·cases h
 ·cases h

def cFieldAddr (P : Program) (s : TypeId) (x : Operand) (n : Nat) (tm : T Value) (c : CW) (k : Value → CW → Bool) : Bool :=
 evK tm x fun v => cPtr v fun a => fieldK P s n fun f => szK P f.type fun
  | 0 => false
  | _+1 => addK a f.offset fun a => k (.pointer (some a)) c
theorem cFieldAddr_ok {s : TypeId} {x : Operand} {n : Nat} {k : Value → CW → Bool} (h : cFieldAddr P s x n tm c k = true) :
  ∃ v c', k v c' = true ∧ OpS P tm c (fun a => do pure (.value (← Instr.fieldAt s (a.eval x) n))) v c' := by
 obtain ⟨v, h1, hv⟩ := evK_ok h
 obtain ⟨a, rfl, h2, hp⟩ := cPtr_ok h1
 obtain ⟨fs, fd, hu, hfd, h3⟩ := fieldK_ok h2
 obtain ⟨i, hi, h4⟩ := szK_ok h3
 split at h4
 ·cases h4
 ·next m hm =>
  obtain ⟨hs, h5⟩ := addK_ok h4
  refine ⟨_, c, h5, OpS.quiet fun f nt b w ht hr => ?_⟩
  obtain ⟨r, lz, hf, he⟩ := hp f _ (hv f nt b ht)
  refine ⟨.pointer (some ⟨r, a.off + fd.offset, none⟩), ?_, .ptr _ none hf⟩
  simp [he, Instr.fieldAt, Instr.sureAddr, hs, run_und hu, hfd, fieldPlace, run_size hi, hm, add_none]

def partK (P : Program) (t : TypeId) (cs : List Value) (off : Nat) (k : Value → Bool) : Bool := aggK P t fun
 | true => szK P t fun n => takeK cs off n [] fun vs => k (.agg vs.toArray)
 | false => getK cs off k
theorem partK_ok {t : TypeId} {cs : List Value} {off : Nat} {k : Value → Bool} (h : partK P t cs off k = true) :
  ∃ v, k v = true ∧ ∀ (f : Mp) (cs' : Array Value) (w : World), LR f cs cs'.toList → ∃ v', (part t cs' off).run P w = .ok v' w ∧ VR f v v' := by
 obtain ⟨b, h1, hb⟩ := aggK_ok h
 cases b with
 | true =>
  obtain ⟨i, hi, h2⟩ := szK_ok h1
  obtain ⟨hle, h3⟩ := takeK_ok h2
  refine ⟨_, h3, fun f cs' w hl => ⟨.agg (cs'.extract off (off + i.size)), by simp [part, hb, run_size hi], .agg ?_⟩⟩
  simp only [List.reverse_nil, List.nil_append]
  have : (cs'.extract off (off + i.size)).toList = (cs'.toList.drop off).take i.size := by
   simp [Array.toList_extract]
  rw [this]
  exact (hl.drop _).take _
 | false =>
  obtain ⟨v, hv, h2⟩ := getK_ok h1
  refine ⟨v, h2, fun f cs' w hl => ?_⟩
  obtain ⟨v', h3, h4⟩ := hl.get hv
  have h3' : cs'[off]? = some v' := by simpa using h3
  exact ⟨v', by simp [part, hb, h3'], h4⟩

def cAgg (v : Value) (k : List Value → Bool) : Bool := match v with
 | .agg cs => k cs.toList
 | _ => false
theorem cAgg_ok {v : Value} {k : List Value → Bool} (h : cAgg v k = true) : ∃ cs, k cs = true ∧ ∀ (f : Mp) (v' : Value), VR f v v' → ∃ cs', v' = .agg cs' ∧ LR f cs cs'.toList := by
 unfold cAgg at h
 split at h
 ·next cs => exact ⟨_, h, fun f v' hv => by cases hv; next hl => exact ⟨_, rfl, hl⟩⟩
 ·cases h

def cField (P : Program) (s : TypeId) (x : Operand) (n : Nat) (tm : T Value) (c : CW) (k : Value → CW → Bool) : Bool :=
 evK tm x fun v => cAgg v fun cs => fieldK P s n fun f => partK P f.type cs f.offset fun v => k v c
theorem cField_ok {s : TypeId} {x : Operand} {n : Nat} {k : Value → CW → Bool} (h : cField P s x n tm c k = true) :
  ∃ v c', k v c' = true ∧ OpS P tm c (fun a => do pure (.value (← Instr.field s (a.eval x) n))) v c' := by
 obtain ⟨v, h1, hv⟩ := evK_ok h
 obtain ⟨cs, h2, ha⟩ := cAgg_ok h1
 obtain ⟨fs, fd, hu, hfd, h3⟩ := fieldK_ok h2
 obtain ⟨u, h4, hp⟩ := partK_ok h3
 refine ⟨u, c, h4, OpS.quiet fun f nt b w ht hr => ?_⟩
 obtain ⟨cs', he, hl⟩ := ha f _ (hv f nt b ht)
 obtain ⟨v', h5, h6⟩ := hp f cs' w hl
 exact ⟨v', by simp [he, Instr.field, run_und hu, hfd, asAgg, h5], h6⟩

def natOf (v : Value) (k : Nat → Bool) : Bool := match v with
 | .int _ (.ofNat n) => natK n k
 | _ => false
theorem natOf_ok {v : Value} {k : Nat → Bool} (h : natOf v k = true) : ∃ q n, v = .int q (Int.ofNat n) ∧ k n = true := by
 unfold natOf at h
 split at h
 ·next q n => exact ⟨q, n, rfl, by rwa [natK_eq] at h⟩
 ·cases h
theorem VR.of_int {f : Mp} {q : IntKind} {n : Int} {v' : Value} (h : VR f (.int q n) v') : v' = .int q n := by cases h; rfl
theorem VR.of_ptr {f : Mp} {a : Addr} {v' : Value} (h : VR f (.pointer (some a)) v') : ∃ r lz, f a.block = some (r, lz) ∧ v' = .pointer (some ⟨r, a.off, a.spot⟩) := by
 cases h; next hb => exact ⟨_, _, hb, rfl⟩
theorem VR.of_slice {f : Mp} {a : Addr} {len cap : Nat} {v' : Value} (h : VR f (.slice (some a) len cap) v') :
  (∃ r lz cap', f a.block = some (r, lz) ∧ v' = .slice (some ⟨r, a.off, none⟩) len cap' ∧ a.spot = none ∧ cap ≤ cap' ∧ Room lz a.off cap cap') ∨
  (len = 0 ∧ cap = 0 ∧ ∃ r p a' cap', f a.block = some (r, some p) ∧ v' = .slice (some a') 0 cap' ∧ a'.spot = none) := by
 cases h
 ·next hb h1 h2 => exact .inl ⟨_, _, _, hb, rfl, rfl, h1, h2⟩
 ·next hb hs => exact .inr ⟨rfl, rfl, _, _, _, _, hb, rfl, hs⟩
def ltK (a b : Nat) (k : Bool) : Bool := match Nat.ble (a+1) b with
 | true => k
 | false => false
theorem ltK_ok {a b : Nat} {k : Bool} (h : ltK a b k = true) : a < b ∧ k = true := by
 unfold ltK at h; split at h
 ·next e => exact ⟨Nat.le_of_ble_eq_true e, h⟩
 ·cases h
def leK (a b : Nat) (k : Bool) : Bool := match Nat.ble a b with
 | true => k
 | false => false
theorem leK_ok {a b : Nat} {k : Bool} (h : leK a b k = true) : a ≤ b ∧ k = true := by
 unfold leK at h; split at h
 ·next e => exact ⟨Nat.le_of_ble_eq_true e, h⟩
 ·cases h

def cIndexAddr (P : Program) (t : TypeId) (x ix : Operand) (tm : T Value) (c : CW) (k : Value → CW → Bool) : Bool :=
 evK tm ix fun i => natOf i fun i => evK tm x fun v => match P.underlying t, v with
  | some (.array n e), .pointer (some a) => ltK i n (szK P e fun sz => natK (i * sz) fun d => addK a d fun a => k (.pointer (some a)) c)
  | some (.slice e), .slice (some a) n _ => ltK i n (szK P e fun sz => natK (i * sz) fun d => addK a d fun a => k (.pointer (some a)) c)
  | _, _ => false
theorem cIndexAddr_ok {t : TypeId} {x ix : Operand} {k : Value → CW → Bool} (h : cIndexAddr P t x ix tm c k = true) :
  ∃ v c', k v c' = true ∧ OpS P tm c (fun a => do pure (.value (← Instr.indexAt t (a.eval x) (a.eval ix)))) v c' := by
 obtain ⟨i, h1, hi⟩ := evK_ok h
 obtain ⟨q, i, rfl, h1'⟩ := natOf_ok h1
 obtain ⟨v, h2, hv⟩ := evK_ok h1'
 split at h2
 ·next _ _ n e a hu =>
  obtain ⟨hlt, h3⟩ := ltK_ok h2
  obtain ⟨j, hj, h4⟩ := szK_ok h3
  rw [natK_eq] at h4
  obtain ⟨hs, h5⟩ := addK_ok h4
  refine ⟨_, c, h5, OpS.quiet fun f nt b w ht hr => ?_⟩
  have e1 := (hi f nt b ht).of_int
  obtain ⟨r, lz, hf, hx⟩ := (hv f nt b ht).of_ptr
  refine ⟨.pointer (some ⟨r, a.off + i * j.size, none⟩), ?_, .ptr _ none hf⟩
  simp [e1, hx, hs, Instr.indexAt, asIntOf, run_und hu, Instr.sureAddr, run_size hj, hlt, add_none]
 ·next _ _ e a n cp hu =>
  obtain ⟨hlt, h3⟩ := ltK_ok h2
  obtain ⟨j, hj, h4⟩ := szK_ok h3
  rw [natK_eq] at h4
  obtain ⟨hs, h5⟩ := addK_ok h4
  refine ⟨_, c, h5, OpS.quiet fun f nt b w ht hr => ?_⟩
  have e1 := (hi f nt b ht).of_int
  rcases (hv f nt b ht).of_slice with ⟨r, lz, cap', hf, hx, _⟩ | ⟨hn, _⟩
  ·refine ⟨.pointer (some ⟨r, a.off + i * j.size, none⟩), ?_, .ptr _ none hf⟩
   simp [e1, hx, Instr.indexAt, asIntOf, run_und hu, run_size hj, hlt, add_none]
  ·omega
 ·cases h2
end ops
end
end Go.Can
