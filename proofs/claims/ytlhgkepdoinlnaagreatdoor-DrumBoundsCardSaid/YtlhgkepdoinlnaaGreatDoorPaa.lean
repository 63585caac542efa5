/- A part of the proof: see the last file. -/
import Derived.ProofKit
import Derived.LaidMore
import Derived.OpenShut
import Derived.Stop.Joined
import Derived.Deep.Slices
import Derived.Carry
import Derived.ChangeSame
import Derived.Below
import Derived.Laws.EntriesVeiled
import Derived.RangeFuncRecord
import Derived.Deep.RegionHeld
import Derived.Test.YtlhgkepdoinlnaaGreatDoorRows
import Derived.WalkKit
import Derived.WalkSpells
import Derived.WalkLawsBesides
import Derived.Deep.QuietTactic
import Derived.BigQuiet
set_option linter.unusedVariables false
set_option linter.unusedSimpArgs false
set_option linter.unusedSectionVars false
/-! Slices whose elements are so many integers each, whatever the struct: in memory, and out of a row's reading. No seat. -/
namespace Go.Gen
open Go Go.ChangeShapes Go.WideShapes Go.ChangeAt Go.RowKit Go.Deep
/-- n elements of k integers each. -/
def KRows (k : Nat) (w : World) (b off n : Nat) (F : Nat → Nat → Int) : Prop := ∀ i, i < n → ∀ j, j < k → w.cell? ⟨b, off + i * k + j, none⟩ = some (.int .i64 (F i j))
theorem KRows.below {k : Nat} {w w' : World} {b off n : Nat} {F : Nat → Nat → Int} (h : KRows k w b off n F) (hb : Below w.heap.size w w') (hl : b < w.heap.size) : KRows k w' b off n F :=
 fun i hi j hj => (hb.cell (p := ⟨b, off + i * k + j, none⟩) hl).trans (h i hi j hj)
/-- a slice of them; an empty one lies wherever. -/
def KSl (k : Nat) (w : World) (v : Value) (n : Nat) (F : Nat → Nat → Int) : Prop := (∃ a c, v = .slice a 0 c ∧ n = 0) ∨ ∃ b off cap, v = .slice (some ⟨b, off, none⟩) n cap ∧ b < w.heap.size ∧ KRows k w b off n F
theorem KSl.below {k : Nat} {w w' : World} {v : Value} {n : Nat} {F : Nat → Nat → Int} (h : KSl k w v n F) (hb : Below w.heap.size w w') : KSl k w' v n F := by
 rcases h with h | ⟨b, off, cap, h1, h2, h3⟩
 ·exact .inl h
 ·exact .inr ⟨b, off, cap, h1, Nat.lt_of_lt_of_le h2 hb.size, h3.below hb h2⟩
theorem KSl.slice {k : Nat} {w : World} {v : Value} {n : Nat} {F : Nat → Nat → Int} (h : KSl k w v n F) : ∃ a c, v = .slice a n c := by
 rcases h with ⟨a, c, h1, h2⟩ | ⟨b, off, c, h1, _⟩
 ·exact ⟨a, c, by rw [h1, h2]⟩
 ·exact ⟨_, c, h1⟩
theorem KSl.pos {k : Nat} {w : World} {v : Value} {n : Nat} {F : Nat → Nat → Int} (h : KSl k w v n F) (hn : 1 ≤ n) : ∃ b off cap, v = .slice (some ⟨b, off, none⟩) n cap ∧ b < w.heap.size ∧ KRows k w b off n F := by
 rcases h with ⟨a, c, _, h2⟩ | h
 ·omega
 ·exact h
/-- one element's integer, at the place as a walk reckons it. -/
theorem KRows.first {k : Nat} {w : World} {b off n : Nat} {F : Nat → Nat → Int} (h : KRows k w b off n F) {i : Nat} (hi : i < n) (hk : 0 < k) : w.cell? ⟨b, off + i * k, none⟩ = some (.int .i64 (F i 0)) := h i hi 0 hk
theorem KRows.one {w : World} {b off n : Nat} {F : Nat → Nat → Int} (h : KRows 1 w b off n F) {i : Nat} (hi : i < n) : w.cell? ⟨b, off + i, none⟩ = some (.int .i64 (F i 0)) := by
 have := h i hi 0 (by omega)
 rw [Nat.mul_one] at this
 exact this
/-- the cells of a new block. -/
theorem cells_new (w : World) (l : Array Value) (e : TypeId) {j : Nat} {u : Value} (h : l[j]? = some u) : (w.alloc (Obj.cells l e)).cell? ⟨w.heap.size, j, none⟩ = some u := by
 have h1 : (w.alloc (Obj.cells l e)).heap[w.heap.size]? = some (Obj.cells l e (0, 0)) := World.alloc_heap_new w _
 unfold World.cell?
 rw [h1]
 exact h
/-! ### Out of a reading -/
theorem add_zero' (a : Addr) : a.add 0 = a := by
 obtain ⟨b, o, s⟩ := a
 cases s <;> simp [Addr.add]
theorem spot_of {W : World} {a : Addr} {v : Value} (hx0 : W.cell? a = some v) : a.spot = none := by
 unfold World.cell? at hx0
 split at hx0
 ·split at hx0
  ·cases hx0
  ·next hns => cases e : a.spot with
   | none => rfl
   | some s => rw [e] at hns; exact absurd rfl hns
 ·cases hx0
theorem add_at (b o j : Nat) : (⟨b, o, none⟩ : Addr).add j = ⟨b, o + j, none⟩ := by unfold Addr.add; split <;> simp_all
/-- whatever reads as type e is k integers. -/
def IntsOf (P : Program) (e : TypeId) (k : Nat) : Prop :=
 P.cellsOf e = k ∧ ∀ {H : Type} {enc : TypeId × Value → H} {W : World} {base : Nat} {spare : Nat → Bool} {held : Bool} (fuel : Nat) (cs : List Value) (y : DataW H × List MemPlace), DataW.trod enc P W base spare held fuel e cs = some y → cs.length = k → ∀ j, j < k → ∃ x : Int, cs[j]? = some (.int .i64 x)
theorem IntsOf.int {P : Program} {e : TypeId} (hc : P.cellsOf e = 1) (ht : P.underlying e = some (.int .i64)) : IntsOf P e 1 := ⟨hc, fun fuel cs y h hl j hj => by
 obtain ⟨x, e1, _⟩ := DataW.trod_int ht h
 obtain rfl : j = 0 := by omega
 have e1 : cs = [Value.int .i64 x] := e1
 exact ⟨x, by rw [e1]; rfl⟩⟩
theorem IntsOf.struct {P : Program} {t : TypeId} {fs : Array Field} {k : Nat} (hc : P.cellsOf t = k) (ht : P.underlying t = some (.struct fs))
  (hcov : ∀ j, j < k → ∃ (i : Nat) (f : Field) (m : Nat), fs[i]? = some f ∧ f.offset ≤ j ∧ j < f.offset + m ∧ f.offset + m ≤ k ∧ IntsOf P f.type m) : IntsOf P t k := ⟨hc, fun {H enc W base spare held} fuel cs y h hl j hj => by
 obtain ⟨ys, n2, _, _, _, hyl, hff⟩ := DataW.trod_struct ht h
 obtain ⟨i, f, m, h1, h2, h3, h3', h4, h5⟩ := hcov j hj
 have h6 := hff i f h1
 rw [h4] at h6
 have hi : i < ys.length := by
  rw [hyl]
  have := (Array.getElem?_eq_some_iff.1 h1).1
  simpa using this
 have h7 := h6.trans (List.getElem?_eq_getElem hi)
 have hlen : ((cs.drop f.offset).take m).length = m := by
  rw [List.length_take, List.length_drop, hl]; omega
 obtain ⟨x, hx⟩ := h5 (H := H) (enc := enc) (W := W) (base := base) (spare := spare) (held := held) n2 _ _ h7 hlen (j - f.offset) (by omega)
 refine ⟨x, ?_⟩
 rw [List.getElem?_take, if_pos (by omega), List.getElem?_drop] at hx
 rw [← hx]
 congr 1
 omega⟩
theorem ksl_trod {P : Program} {H : Type} {enc : TypeId × Value → H} {W : World} {k : Nat} {t e : TypeId} {fuel : Nat} {cs : List Value} {y : DataW H × List MemPlace} (ht : P.underlying t = some (.slice e)) (he : IntsOf P e k) (hk : 0 < k)
  (hf : DataW.trod enc P W 0 (fun _ => true) true fuel t cs = some y) :
  ∃ (a : Option Addr) (n c : Nat) (F : Nat → Nat → Int), cs = [.slice a n c] ∧ n ≤ 9223372036854775807 ∧ n ≤ c ∧ KSl k W (.slice a n c) n F := by
 rcases open_slice ht hf with ⟨h1, _⟩ | ⟨a, len, cap, m, n', D, Pl, hcs, _, hl, hm, hmm, _, hi⟩
 ·exact ⟨none, 0, 0, fun _ _ => 0, h1, by omega, Nat.le_refl _, .inl ⟨none, 0, rfl, rfl⟩⟩
 ·have hmax : len ≤ 9223372036854775807 := by unfold maxLen at hm; omega
  have hmc : m = cap := hmm
  subst hmc
  have each : ∀ i, i < m → ∀ j, j < k → ∃ x : Int, W.cell? ((a.add (i * k)).add j) = some (.int .i64 x) := fun i hi' j hj => by
   obtain ⟨cs', hc, ht'⟩ := hi i hi'
   rw [he.1] at hc
   obtain ⟨_, hcl, hat⟩ := World.cells?_some hc
   obtain ⟨x, hx⟩ := he.2 _ _ _ ht' hcl j hj
   refine ⟨x, ?_⟩
   rw [hat j (by omega)]
   have : cs'[j]? = some (Value.int .i64 x) := hx
   rw [this]
  refine ⟨some a, len, m, fun i j => intOf ((W.cell? ⟨a.block, a.off + i * k + j, none⟩).getD undef), hcs, hmax, hl, ?_⟩
  rcases Nat.eq_zero_or_pos m with hz | hpos
  ·have : len = 0 := by omega
   subst this
   exact .inl ⟨some a, m, rfl, rfl⟩
  ·obtain ⟨x0, hx0⟩ := each 0 hpos 0 hk
   have hlt := World.block_lt_of_cell? W _ hx0
   rw [Nat.zero_mul, add_zero', add_zero'] at hx0
   have hsp := spot_of hx0
   obtain ⟨b, off, sp⟩ := a
   dsimp only at hsp
   subst hsp
   have hlt' : b < W.heap.size := World.block_lt_of_cell? W _ hx0
   refine .inr ⟨b, off, m, rfl, hlt', fun i hi2 j hj => ?_⟩
   obtain ⟨x, hx⟩ := each i (by omega) j hj
   have e1 : ((⟨b, off, none⟩ : Addr).add (i * k)).add j = ⟨b, off + i * k + j, none⟩ := by rw [add_at, add_at]
   rw [e1] at hx
   show W.cell? ⟨b, off + i * k + j, none⟩ = some (.int .i64 (intOf ((W.cell? ⟨b, off + i * k + j, none⟩).getD undef)))
   rw [hx]; rfl
end Go.Gen
/-! A region in which late operations (L: the stores of an assignment) break the condition S by which loads are taken first: S is asked only while none of them has come up; S0 is asked throughout. No seat. -/
namespace Go
section
variable {P : Program} {ops : Array Oper} {Q : Exit → Act → World → Prop} {md : Region.Mode} {S0 S : World → Prop} {L : List Nat}

/-- none of the late ones has come up. -/
def aliveB (L : List Nat) (l : Array Bool) : Bool := L.all fun j => !(l.getD j false)
def InvP (L : List Nat) (S0 S : World → Prop) (l : Array Bool) (w : World) : Prop := S0 w ∧ (aliveB L l = true → S w)
theorem aliveB_set {l : Array Bool} {i : Nat} (hi : L.contains i = false) : aliveB L (l.setIfInBounds i true) = aliveB L l := by
 unfold aliveB
 rw [Bool.eq_iff_iff, List.all_eq_true, List.all_eq_true]
 have key : ∀ j ∈ L, (l.setIfInBounds i true).getD j false = l.getD j false := fun j hj =>
  getD_set_ne false (fun h => by subst h; rw [List.contains_iff_mem.2 hj] at hi; cases hi)
 exact ⟨fun h j hj => by rw [← key j hj]; exact h j hj, fun h j hj => by rw [key j hj]; exact h j hj⟩
/-- Whatever order is picked from here on, and the condition holds behind each operation. -/
def wpAnyP (P : Program) (md : Region.Mode) (ops : Array Oper) (Q : Exit → Act → World → Prop) (L : List Nat) (S0 S : World → Prop) : Nat → Array Bool → Act → World → Prop
 | 0, l, a, w => Region.ready md ops l = [] ∧ Q .normal a w
 | n + 1, l, a, w => (Region.ready md ops l = [] → Q .normal a w) ∧ ∀ i ∈ Region.ready md ops l, wpOp P ops Q i (fun a' w' => InvP L S0 S (l.setIfInBounds i true) w' ∧ wpAnyP P md ops Q L S0 S n (l.setIfInBounds i true) a' w') a w
theorem wpAny_of_late : ∀ (n : Nat) (l : Array Bool) (a : Act) (w : World), wpAnyP P md ops Q L S0 S n l a w → wpAny P md ops Q n l a w
 | 0, _, _, _, h => h
 | n + 1, _, _, _, h => ⟨h.1, fun i hi => wpOp_mono (fun a' w' h' => wpAny_of_late n _ a' w' h'.2) (h.2 i hi)⟩
/-- what has come up is closed: each has those that it waits for. -/
def ClosedP (md : Region.Mode) (ops : Array Oper) (l : Array Bool) : Prop :=
 ∀ k o, ops[k]? = some o → l.getD k false = true → ∀ e ∈ o.after, Region.binds md e = true → l.getD e.on false = true
def closedPB (md : Region.Mode) (ops : Array Oper) (l : Array Bool) : Bool :=
 (List.range ops.size).all fun k => !(l.getD k false) || ((ops[k]?).map fun o => o.after.toList.all fun e => !(Region.binds md e) || l.getD e.on false).getD true
theorem closedPB_ok {l : Array Bool} (h : closedPB md ops l = true) : ClosedP md ops l := fun k o ho hk e he hb => by
 have hlt : k < ops.size := (Array.getElem?_eq_some_iff.1 ho).1
 have h1 := List.all_eq_true.1 h k (List.mem_range.2 hlt)
 rw [hk, ho] at h1
 simp only [Bool.not_true, Bool.false_or, Option.map_some, Option.getD_some, List.all_eq_true] at h1
 have h2 := h1 e (by simpa using he)
 rw [hb] at h2
 simpa using h2
theorem ClosedP.set {l : Array Bool} {j : Nat} (h : ClosedP md ops l) (hj : j ∈ Region.ready md ops l) : ClosedP md ops (l.setIfInBounds j true) := fun k o ho hk e he hb => by
 obtain ⟨_, oj, hoj, hall⟩ := mem_ready.1 hj
 refine getD_set_true ?_
 by_cases hjk : j = k
 ·subst hjk
  rw [hoj] at ho
  cases ho
  exact hall e he hb
 ·rw [getD_set_ne false hjk] at hk
  exact h k o ho hk e he hb
/-- j waits for i, at most so many steps back. -/
def waitsB (md : Region.Mode) (ops : Array Oper) (i : Nat) : Nat → Nat → Bool
 | 0, _ => false
 | n + 1, j => ((ops[j]?).map fun o => o.after.toList.any fun e => Region.binds md e && (e.on == i || waitsB md ops i n e.on)).getD false
theorem waitsB_listed {i : Nat} {l : Array Bool} (h : ClosedP md ops l) : ∀ (n j : Nat), waitsB md ops i n j = true → l.getD j false = true → l.getD i false = true
 | 0, _, hw, _ => by cases hw
 | n + 1, j, hw, hj => by
  unfold waitsB at hw
  cases ho : ops[j]? with
  | none => rw [ho] at hw; cases hw
  | some o =>
   rw [ho] at hw
   simp only [Option.map_some, Option.getD_some, List.any_eq_true, Bool.and_eq_true, Bool.or_eq_true, beq_iff_eq] at hw
   obtain ⟨e, he, hb, hi⟩ := hw
   have he' : e ∈ o.after := by simpa using he
   have hl := h j o ho hj e he' hb
   rcases hi with rfl | hi
   ·exact hl
   ·exact waitsB_listed h n e.on hi hl
theorem aliveB_of {i d : Nat} {l : Array Bool} (h : ClosedP md ops l) (hw : (L.all fun j => waitsB md ops i d j) = true) (hi : l.getD i false = false) : aliveB L l = true := by
 unfold aliveB
 rw [List.all_eq_true] at hw ⊢
 intro j hj
 cases hl : l.getD j false with
 | false => rfl
 | true => rw [waitsB_listed h d j (hw j hj) hl] at hi; cases hi
theorem wpAnyP_first {SS : World → Prop} {i : Nat} {oi : Oper} {v : Value} (hi : ops[i]? = some oi) (hsel : ∀ (j : Nat) (o : Oper) cs b, ops[j]? = some o → o.op ≠ .select cs b)
  (hQ : ∀ c a w, Q (.panic c) (a.put oi.dst v) w → Q (.panic c) a w) (hiL : L.contains i = false)
  (hSS : ∀ (l : Array Bool) (w : World), ClosedP md ops l → l.getD i false = false → InvP L S0 S l w → SS w) :
  ∀ (fuel : Nat) (listed : Array Bool) (a : Act) (w : World), ClosedP md ops listed →
   (∀ j oj, ops[j]? = some oj → j ≠ i → listed.getD j true = false → (∀ e ∈ oj.after, Region.binds md e = true → e.on ≠ i) → oi.apart ops oj = true) →
   i ∈ Region.ready md ops listed → YieldsIf P ops SS oi v a → InvP L S0 S listed w →
   wpAnyP P md ops Q L S0 S fuel (listed.setIfInBounds i true) (a.put oi.dst v) w → wpAnyP P md ops Q L S0 S (fuel + 1) listed a w := by
 have hun : ∀ {l : Array Bool}, i ∈ Region.ready md ops l → l.getD i false = false := fun {l} hr => by
  have h0 := (mem_ready.1 hr).1
  rcases Nat.lt_or_ge i l.size with h' | h'
  ·simp [h'] at h0 ⊢; exact h0
  ·simp [Array.getElem?_eq_none h'] at h0
 have hself : ∀ {l : Array Bool} {w : World}, InvP L S0 S l w → InvP L S0 S (l.setIfInBounds i true) w := fun {l w} hI => ⟨hI.1, fun h => hI.2 (by rw [aliveB_set hiL] at h; exact h)⟩
 intro fuel
 induction fuel with
 | zero =>
  intro listed a w hcl _ hr hy hI H
  refine ⟨fun h => (by rw [h] at hr; cases hr), fun j hj => ?_⟩
  by_cases hji : j = i
  ·subst hji; exact hy.wpOp hi (hSS listed w hcl (hun hr) hI) ⟨hself hI, H⟩
  ·have := ready_mono hj hji
   rw [H.1] at this
   cases this
 | succ fuel ih =>
  intro listed a w hcl hfree hr hy hI H
  refine ⟨fun h => (by rw [h] at hr; cases hr), fun j hj => ?_⟩
  by_cases hji : j = i
  ·subst hji; exact hy.wpOp hi (hSS listed w hcl (hun hr) hI) ⟨hself hI, H⟩
  ·have h1 := H.2 j (ready_mono hj hji)
   obtain ⟨hjun, oj, hoj, hall⟩ := mem_ready.1 hj
   have hiun := hun hr
   have hnot : ∀ e ∈ oj.after, Region.binds md e = true → e.on ≠ i := fun e he hb heq => by
    have h1 := hall e he hb
    rw [heq, hiun] at h1
    cases h1
   have h2 := wpOp_putIf hoj (hfree j oj hoj hji hjun hnot) (fun cs b => hsel i oi cs b hi) (fun cs b => hsel j oj cs b hoj) hQ hy h1
   have hfree' : ∀ k ok, ops[k]? = some ok → k ≠ i → (listed.setIfInBounds j true).getD k true = false →
     (∀ e ∈ ok.after, Region.binds md e = true → e.on ≠ i) → oi.apart ops ok = true := fun k ok hk hki hun hno => by
    refine hfree k ok hk hki ?_ hno
    by_cases hjk : j = k
    ·subst hjk; exact hjun
    ·rw [getD_set_ne true hjk] at hun; exact hun
   refine wpOp_mono (fun a' w' h3 => ?_) h2
   have h4 := h3.2.1
   have h5 := h3.2.2
   rw [Array.setIfInBounds_comm _ _ (Ne.symm hji)] at h4 h5
   have hI' : InvP L S0 S (listed.setIfInBounds j true) w' := ⟨h4.1, fun h => h4.2 (by rw [aliveB_set hiL]; exact h)⟩
   exact ⟨hI', ih (listed.setIfInBounds j true) a' w' (hcl.set hj) hfree' (ready_mono hr (Ne.symm hji)) h3.1 hI' h5⟩
/-- take number i first, by what holds throughout. -/
theorem wpAnyP_take0 {i : Nat} {oi : Oper} {v : Value} {fuel : Nat} {listed : Array Bool} {a : Act} {w : World} (hi : ops[i]? = some oi)
  (hs : Region.noSelect ops = true) (hf : Region.free md ops listed i = true) (hr : (Region.ready md ops listed).contains i = true)
  (hc : closedPB md ops listed = true) (hiL : L.contains i = false)
  (hQ : ∀ c a w, Q (.panic c) (a.put oi.dst v) w → Q (.panic c) a w) (hy : YieldsIf P ops S0 oi v a) (hI : S0 w ∧ S w)
  (h : wpAnyP P md ops Q L S0 S fuel (listed.setIfInBounds i true) (a.put oi.dst v) w) : wpAnyP P md ops Q L S0 S (fuel + 1) listed a w :=
 wpAnyP_first hi (Region.noSelect_spec hs) hQ hiL (fun _ _ _ _ h => h.1) fuel listed a w (closedPB_ok hc) (Region.free_spec hi hf) (by simpa using hr) hy ⟨hI.1, fun _ => hI.2⟩ h
/-- the same, behind a late one. -/
theorem wpAnyP_takeB {i : Nat} {oi : Oper} {v : Value} {fuel : Nat} {listed : Array Bool} {a : Act} {w : World} (hi : ops[i]? = some oi)
  (hs : Region.noSelect ops = true) (hf : Region.free md ops listed i = true) (hr : (Region.ready md ops listed).contains i = true)
  (hc : closedPB md ops listed = true) (hiL : L.contains i = false) (hd : aliveB L listed = false)
  (hQ : ∀ c a w, Q (.panic c) (a.put oi.dst v) w → Q (.panic c) a w) (hy : YieldsIf P ops S0 oi v a) (hI : S0 w)
  (h : wpAnyP P md ops Q L S0 S fuel (listed.setIfInBounds i true) (a.put oi.dst v) w) : wpAnyP P md ops Q L S0 S (fuel + 1) listed a w :=
 wpAnyP_first hi (Region.noSelect_spec hs) hQ hiL (fun _ _ _ _ h => h.1) fuel listed a w (closedPB_ok hc) (Region.free_spec hi hf) (by simpa using hr) hy ⟨hI, fun h => by rw [hd] at h; cases h⟩ h
/-- take number i first, by what holds till a late one comes up; each of these waits for it. -/
theorem wpAnyP_take {i : Nat} {oi : Oper} {v : Value} {fuel : Nat} {listed : Array Bool} {a : Act} {w : World} (d : Nat) (hi : ops[i]? = some oi)
  (hs : Region.noSelect ops = true) (hf : Region.free md ops listed i = true) (hr : (Region.ready md ops listed).contains i = true)
  (hc : closedPB md ops listed = true) (hiL : L.contains i = false) (hw : (L.all fun j => waitsB md ops i d j) = true)
  (hQ : ∀ c a w, Q (.panic c) (a.put oi.dst v) w → Q (.panic c) a w) (hy : YieldsIf P ops (fun w => S0 w ∧ S w) oi v a) (hI : S0 w ∧ S w)
  (h : wpAnyP P md ops Q L S0 S fuel (listed.setIfInBounds i true) (a.put oi.dst v) w) : wpAnyP P md ops Q L S0 S (fuel + 1) listed a w :=
 wpAnyP_first hi (Region.noSelect_spec hs) hQ hiL (fun _ _ hcl hun h => ⟨h.1, h.2 (aliveB_of hcl hw hun)⟩) fuel listed a w (closedPB_ok hc) (Region.free_spec hi hf) (by simpa using hr) hy ⟨hI.1, fun _ => hI.2⟩ h
theorem wpAnyP_done {listed : Array Bool} {a : Act} {w : World} (hr : Region.ready md ops listed = []) (h : Q .normal a w) : ∀ fuel, wpAnyP P md ops Q L S0 S fuel listed a w
 | 0 => ⟨hr, h⟩
 | _ + 1 => ⟨fun _ => h, by rw [hr]; simp⟩
def AllReadyP (P : Program) (md : Region.Mode) (ops : Array Oper) (Q : Exit → Act → World → Prop) (L : List Nat) (S0 S : World → Prop) (fuel : Nat) (listed : Array Bool) (a : Act) (w : World) (rs : List Nat) : Prop :=
 ∀ i ∈ rs, wpOp P ops Q i (fun a' w' => InvP L S0 S (listed.setIfInBounds i true) w' ∧ wpAnyP P md ops Q L S0 S fuel (listed.setIfInBounds i true) a' w') a w
theorem AllReadyP.nil {fuel : Nat} {listed : Array Bool} {a : Act} {w : World} : AllReadyP P md ops Q L S0 S fuel listed a w [] := fun _ h => by cases h
/-- an operation before which none of the late ones has come up: both conditions are shown. -/
theorem AllReadyP.cons {fuel : Nat} {listed : Array Bool} {a : Act} {w : World} {i : Nat} {o : Oper} {rs : List Nat} (ho : ops[i]? = some o)
  (h : ∀ K' : Act → World → Prop, Shut (∀ a w, S0 w ∧ S w → (S0 w ∧ S w → wpAnyP P md ops Q L S0 S fuel (listed.setIfInBounds i true) a w) → K' a w) → if Region.wanted o (yielded ops a.tmps) = true then Oper.wp P o a w K' Q else K' (a.put o.dst undef) w)
  (hs : AllReadyP P md ops Q L S0 S fuel listed a w rs) : AllReadyP P md ops Q L S0 S fuel listed a w (i :: rs) := fun j hj => by
 rcases List.mem_cons.1 hj with rfl | hj
 ·exact wpOp_step ho (fun K' hK => h K' (fun a w hS hW => hK a w ⟨⟨hS.1, fun _ => hS.2⟩, hW hS⟩))
 ·exact hs j hj
/-- a late one, or one behind a late one. -/
theorem AllReadyP.behind {fuel : Nat} {listed : Array Bool} {a : Act} {w : World} {i : Nat} {o : Oper} {rs : List Nat} (ho : ops[i]? = some o) (hl : aliveB L (listed.setIfInBounds i true) = false)
  (h : ∀ K' : Act → World → Prop, Shut (∀ a w, S0 w → (S0 w → wpAnyP P md ops Q L S0 S fuel (listed.setIfInBounds i true) a w) → K' a w) → if Region.wanted o (yielded ops a.tmps) = true then Oper.wp P o a w K' Q else K' (a.put o.dst undef) w)
  (hs : AllReadyP P md ops Q L S0 S fuel listed a w rs) : AllReadyP P md ops Q L S0 S fuel listed a w (i :: rs) := fun j hj => by
 rcases List.mem_cons.1 hj with rfl | hj
 ·have hI : ∀ {w : World}, S0 w → InvP L S0 S (listed.setIfInBounds j true) w := fun hS => ⟨hS, fun h => by rw [hl] at h; cases h⟩
  exact wpOp_step ho (fun K' hK => h K' (fun a w hS hW => hK a w ⟨hI hS, hW hS⟩))
 ·exact hs j hj
theorem wpAnyP_ready {rs : List Nat} {fuel : Nat} {listed : Array Bool} {a : Act} {w : World} (hr : Region.ready md ops listed = rs) (hne : rs ≠ [])
  (h : AllReadyP P md ops Q L S0 S fuel listed a w rs) : wpAnyP P md ops Q L S0 S (fuel + 1) listed a w := ⟨fun h0 => absurd (hr ▸ h0) hne, hr ▸ h⟩
theorem wp_region_late (L : List Nat) (S0 S : World → Prop) {id : Nat} {a : Act} {w : World} (hm : P.follows .mixedOrders = true) (hS : S0 w.drew ∧ S w.drew)
  (h : S0 w.drew ∧ S w.drew → wpAnyP P .any ops Q L S0 S ops.size (Array.replicate ops.size false) a w.drew) : (Code.region id ops true).wp P Q a w :=
 wp_region_any hm (wpAny_of_late _ _ _ _ (h hS))
end
end Go
/-! A late operation waits for another one: shown by a path of edges. No seat. -/
namespace Go
section
variable {P : Program} {ops : Array Oper} {md : Region.Mode}
def edgeB (md : Region.Mode) (ops : Array Oper) (j k : Nat) : Bool := ((ops[j]?).map fun o => o.after.toList.any fun e => Region.binds md e && e.on == k).getD false
def pathB (md : Region.Mode) (ops : Array Oper) : Nat → List Nat → Bool
 | _, [] => true
 | j, k :: r => edgeB md ops j k && pathB md ops k r
theorem waitsB_of_path {i : Nat} : ∀ (p : List Nat) (j : Nat), pathB md ops j (p ++ [i]) = true → waitsB md ops i (p.length + 1) j = true
 | [], j, h => by
  rw [List.nil_append, pathB, Bool.and_eq_true] at h
  have h1 := h.1
  unfold edgeB at h1
  unfold waitsB
  cases ho : ops[j]? with
  | none => rw [ho] at h1; cases h1
  | some o =>
   rw [ho] at h1
   simp only [Option.map_some, Option.getD_some, List.any_eq_true, Bool.and_eq_true, beq_iff_eq] at h1
   obtain ⟨e, he, hb, hi⟩ := h1
   simp only [Option.map_some, Option.getD_some, List.any_eq_true, Bool.and_eq_true, Bool.or_eq_true, beq_iff_eq]
   exact ⟨e, he, hb, .inl hi⟩
 | k :: r, j, h => by
  rw [List.cons_append, pathB, Bool.and_eq_true] at h
  have h2 := waitsB_of_path r k h.2
  have h1 := h.1
  unfold edgeB at h1
  unfold waitsB
  cases ho : ops[j]? with
  | none => rw [ho] at h1; cases h1
  | some o =>
   rw [ho] at h1
   simp only [Option.map_some, Option.getD_some, List.any_eq_true, Bool.and_eq_true, beq_iff_eq] at h1
   obtain ⟨e, he, hb, hi⟩ := h1
   simp only [Option.map_some, Option.getD_some, List.any_eq_true, Bool.and_eq_true, Bool.or_eq_true, beq_iff_eq]
   refine ⟨e, he, hb, .inr ?_⟩
   rw [hi]
   exact h2
theorem waitsB_more {i : Nat} : ∀ (n j : Nat), waitsB md ops i n j = true → waitsB md ops i (n + 1) j = true
 | 0, _, h => by cases h
 | n + 1, j, h => by
  unfold waitsB at h ⊢
  cases ho : ops[j]? with
  | none => rw [ho] at h; cases h
  | some o =>
   rw [ho] at h
   simp only [Option.map_some, Option.getD_some, List.any_eq_true, Bool.and_eq_true, Bool.or_eq_true, beq_iff_eq] at h ⊢
   obtain ⟨e, he, hb, hi⟩ := h
   exact ⟨e, he, hb, hi.imp id fun hi => waitsB_more n e.on hi⟩
theorem waitsB_le {i j n m : Nat} (h : n ≤ m) (hw : waitsB md ops i n j = true) : waitsB md ops i m j = true := by
 induction h with
 | refl => exact hw
 | step _ ih => exact waitsB_more _ _ ih
theorem waits_two {i j k : Nat} (d : Nat) (p q : List Nat) (h : pathB md ops j (p ++ [i]) = true) (h' : pathB md ops k (q ++ [i]) = true) (hp : p.length + 1 ≤ d) (hq : q.length + 1 ≤ d) : ([j, k].all fun j => waitsB md ops i d j) = true := by
 rw [List.all_cons, List.all_cons, List.all_nil, Bool.and_true, Bool.and_eq_true]
 exact ⟨waitsB_le hp (waitsB_of_path p j h), waitsB_le hq (waitsB_of_path q k h')⟩
theorem waits_one {i j : Nat} (p : List Nat) (h : pathB md ops j (p ++ [i]) = true) : ([j].all fun j => waitsB md ops i (p.length + 1) j) = true := by
 rw [List.all_cons, List.all_nil, Bool.and_true]; exact waitsB_of_path p j h
end
end Go
/-! Small words of no seat for layer 3: numbers between two, the first of some, two cells -/
namespace Go.Gen
open Go.RowKit
/-- a fact that a walk must not use as a rule. -/
structure Hdn (p : Prop) : Prop where
 out : p
def inB (n lo hi : Int) : Bool := decide (lo ≤ n ∧ n ≤ hi)
theorem ret_bool {a b : Bool} (h : a = b) : Ending.returned (.bool a) = .returned (.bool b) := by rw [h]
theorem inB_yes {n lo hi : Int} (h1 : lo ≤ n) (h2 : n ≤ hi) : inB n lo hi = true := by unfold inB; exact decide_eq_true ⟨h1, h2⟩
theorem inB_no1 {n lo hi : Int} (h1 : ¬ lo ≤ n) : inB n lo hi = false := by unfold inB; exact decide_eq_false (fun h => h1 h.1)
theorem inB_no2 {n lo hi : Int} (h2 : ¬ n ≤ hi) : inB n lo hi = false := by unfold inB; exact decide_eq_false (fun h => h2 h.2)
theorem inB_iff {n lo hi : Int} : inB n lo hi = true ↔ lo ≤ n ∧ n ≤ hi := by unfold inB; exact decide_eq_true_iff
theorem inB_not {n lo hi : Int} : inB n lo hi = false ↔ ¬ (lo ≤ n ∧ n ≤ hi) := by unfold inB; exact decide_eq_false_iff_not
def idxQ (f : Nat → Bool) (k : Nat) : Nat → Int
 | 0 => -1
 | m+1 => if f k = true then (k : Int) else idxQ f (k+1) m
theorem idxQ_hit {f : Nat → Bool} {n k : Nat} (hk : k < n) (h : f k = true) : idxQ f k (n - k) = k := by
 obtain ⟨m, hm⟩ : ∃ m, n - k = m + 1 := ⟨n - k - 1, by omega⟩
 rw [hm]; unfold idxQ; rw [if_pos h]
theorem idxQ_miss {f : Nat → Bool} {n k : Nat} (hk : k < n) (h : f k = false) : idxQ f k (n - k) = idxQ f (k+1) (n - (k+1)) := by
 obtain ⟨m, hm⟩ : ∃ m, n - k = m + 1 := ⟨n - k - 1, by omega⟩
 rw [hm, show n - (k+1) = m by omega]; conv => lhs; unfold idxQ
 rw [if_neg (by rw [h]; simp)]
theorem idxQ_none {f : Nat → Bool} : ∀ {m k : Nat}, idxQ f k m = -1 ↔ ∀ j, k ≤ j → j < k + m → f j = false
 | 0, k => by simp [idxQ]; intro j h1 h2; omega
 | m+1, k => by
  unfold idxQ
  constructor
  ·intro h j h1 h2
   split at h
   ·omega
   ·next hk =>
    rcases Nat.eq_or_lt_of_le h1 with rfl | h3
    ·simpa using hk
    ·exact idxQ_none.1 h j h3 (by omega)
  ·intro h
   rw [if_neg (by rw [h k (Nat.le_refl _) (by omega)]; simp), idxQ_none]
   intro j h1 h2
   exact h j (by omega) (by omega)
theorem idxQ_neg {f : Nat → Bool} : ∀ {m k : Nat}, idxQ f k m < 0 → idxQ f k m = -1
 | 0, k, _ => rfl
 | m+1, k, h => by
  unfold idxQ at h ⊢
  split at h
  ·omega
  ·next hk => rw [if_neg hk]; exact idxQ_neg h
/-- one of the first n is so. -/
def anyB (P : Nat → Bool) (n : Nat) : Bool := decide (0 ≤ idxQ P 0 n)
theorem anyB_no {P : Nat → Bool} {n : Nat} : anyB P n = false ↔ ∀ i, i < n → P i = false := by
 unfold anyB
 rw [decide_eq_false_iff_not]
 constructor
 ·intro h k hk
  exact idxQ_none.1 (idxQ_neg (m := n) (k := 0) (by omega)) k (Nat.zero_le _) (by omega)
 ·intro h
  rw [idxQ_none.2 fun j _ hj => h j (by omega)]; omega
theorem all_succ {p : Nat → Prop} {k : Nat} (h : ∀ m, m < k → p m) (hk : p k) : ∀ m, m < k + 1 → p m := fun m hm => by
 rcases Nat.lt_or_eq_of_le (Nat.le_of_lt_succ hm) with h1 | h1
 ·exact h m h1
 ·rw [h1]; exact hk
theorem KRows.at {k : Nat} {w : World} {b off n : Nat} {F : Nat → Nat → Int} (h : KRows k w b off n F) {i : Nat} (hi : i < n) (j : Nat) (hj : j < k) : w.cell? ⟨b, off + i * k + j, none⟩ = some (.int .i64 (F i j)) := h i hi j hj
/-- a Bool that says whether something is so. -/
def SaysB (P : Prop) (w : World) (e : Ending) (w' : World) : Prop := ∃ b : Bool, (b = true ↔ P) ∧ e = .returned (.bool b) ∧ Below w.heap.size w w'
theorem SaysB.yes {P : Prop} {w w' : World} (h : P) (hb : Below w.heap.size w w') : SaysB P w (.returned (.bool true)) w' := ⟨true, by simp [h], rfl, hb⟩
theorem SaysB.no {P : Prop} {w w' : World} (h : ¬ P) (hb : Below w.heap.size w w') : SaysB P w (.returned (.bool false)) w' := ⟨false, by simp [h], rfl, hb⟩
theorem SaysB.of_yes {P : Prop} {w w' : World} {e : Ending} (h : P) (hs : SaysB P w e w') : e = .returned (.bool true) ∧ Below w.heap.size w w' := by
 obtain ⟨b, hb, he, hbl⟩ := hs
 rw [hb.2 h] at he; exact ⟨he, hbl⟩
theorem SaysB.of_no {P : Prop} {w w' : World} {e : Ending} (h : ¬ P) (hs : SaysB P w e w') : e = .returned (.bool false) ∧ Below w.heap.size w w' := by
 obtain ⟨b, hb, he, hbl⟩ := hs
 cases b with
 | true => exact absurd (hb.1 rfl) h
 | false => exact ⟨he, hbl⟩
/-- a span in memory. -/
structure Two (W : World) (A : Nat) (x y : Int) : Prop where
 k0 : W.cell? ⟨A, 0, none⟩ = some (.int .i64 x)
 k1 : W.cell? ⟨A, 1, none⟩ = some (.int .i64 y)
 f0 : W.frozen? ⟨A, 0, none⟩ = false
 f1 : W.frozen? ⟨A, 1, none⟩ = false
theorem Two.new (w : World) (e : TypeId) (x y : Int) : Two (w.alloc (Obj.cells #[.int .i64 x, .int .i64 y] e)) w.heap.size x y := ⟨cells_new w _ _ rfl, cells_new w _ _ rfl, by simp [go_sem], by simp [go_sem]⟩
theorem Two.below {W W' : World} {A B : Nat} {x y : Int} (h : Two W A x y) (hb : Below B W W') (hl : A < B) : Two W' A x y :=
 ⟨(hb.cell (p := ⟨A, 0, none⟩) hl).trans h.k0, (hb.cell (p := ⟨A, 1, none⟩) hl).trans h.k1, (hb.frozen (p := ⟨A, 0, none⟩) hl).trans h.f0, (hb.frozen (p := ⟨A, 1, none⟩) hl).trans h.f1⟩
theorem Two.far {W W' : World} {A : Nat} {x y : Int} (h : Two W A x y) (hh : W'.heap[A]? = W.heap[A]?) : Two W' A x y := by
 have c : ∀ j, W'.cell? ⟨A, j, none⟩ = W.cell? ⟨A, j, none⟩ := fun j => World.cell?_of_block hh
 have f : ∀ j, W'.frozen? ⟨A, j, none⟩ = W.frozen? ⟨A, j, none⟩ := fun j => by unfold World.frozen?; rw [hh]
 exact ⟨(c _).trans h.k0, (c _).trans h.k1, (f _).trans h.f0, (f _).trans h.f1⟩
theorem Two.set01 {W : World} {A : Nat} {x y : Int} (h : Two W A x y) (u v : Int) : Two ((W.setCell ⟨A, 0, none⟩ (.int .i64 u)).setCell ⟨A, 1, none⟩ (.int .i64 v)) A u v := by
 refine ⟨?_, ?_, ?_, ?_⟩
 ·rw [World.cell?_setCell_other _ _ (a := ⟨A, 1, none⟩) (b := ⟨A, 0, none⟩) (by intro h; cases h)]; exact World.cell?_setCell_same' _ _ _ (by rw [h.k0]; rfl)
 ·exact World.cell?_setCell_same' _ _ _ (by rw [World.cell?_setCell_other _ _ (a := ⟨A, 0, none⟩) (b := ⟨A, 1, none⟩) (by intro h; cases h), h.k1]; rfl)
 ·rw [World.frozen?_setCell, World.frozen?_setCell]; exact h.f0
 ·rw [World.frozen?_setCell, World.frozen?_setCell]; exact h.f1
theorem Two.drew {W : World} {A : Nat} {x y : Int} (h : Two W A x y) : Two W.drew A x y := ⟨h.k0, h.k1, h.f0, h.f1⟩
theorem Two.two {W : World} {A R : Nat} {x y : Int} (h : Two W R x y) (hne : R ≠ A) (o1 o2 : Nat) (u v : Value) : Two ((W.setCell ⟨A, o1, none⟩ u).setCell ⟨A, o2, none⟩ v) R x y :=
 (h.far (Below.heap_setCell W ⟨A, o1, none⟩ _ R hne)).far (Below.heap_setCell _ ⟨A, o2, none⟩ _ R hne)
theorem Two.alloc {W : World} {A : Nat} {x y : Int} (h : Two W A x y) (hl : A < W.heap.size) (o : Obj) : Two (W.alloc o) A x y := h.below ((Below.refl W.heap.size W).alloc (Nat.le_refl _) o) hl
/-- a walk goes on at whatever world of which so much holds. -/
theorem wp_gen {P : Program} {c : Code} {Q : Exit → Act → World → Prop} {a : Act} {w : World} (R : World → Prop) (h : R w) (k : ∀ W, R W → c.wp P Q a W) : c.wp P Q a w := k w h
end Go.Gen
/-! Layer 3's math, of no seat: an acid's strengths, hour by hour (no program text is mentioned) -/
namespace Go.Drum
/-- an acid in a drum: its first strength, by how much it falls, what is added, and what strips show. -/
structure Acid where
 s0 : Int
 s1 : Int
 f0 : Int
 f1 : Int
 add : Nat → Int
 n : Nat
 cl : Nat → Int × Int × Int
/-- the strips of an hour, one by one. -/
def cuts (k : Int) (cl : Nat → Int × Int × Int) : Nat → Int × Int → Int × Int
 | 0, s => s
 | n+1, s => if (cl n).1 = k then (max (cuts k cl n s).1 (cl n).2.1, min (cuts k cl n s).2 (cl n).2.2) else cuts k cl n s
/-- between which ends it is before the strips of an hour, behind the hour before. -/
def Acid.fall (a : Acid) (k : Nat) (s : Int × Int) : Int × Int := (max 0 (s.1 - a.f1) + a.add k, max 0 (s.2 - a.f0) + a.add k)
def Acid.next (a : Acid) (k : Nat) (s : Int × Int) : Int × Int := cuts k a.cl a.n (if k = 0 then (a.s0 + a.add 0, a.s1 + a.add 0) else a.fall k s)
/-- the ends by all hours up to one. -/
def Acid.fwd (a : Acid) : Nat → Int × Int
 | 0 => a.next 0 (0, 0)
 | k+1 => a.next (k+1) (a.fwd k)
/-- between which ends it was in the hour before. -/
def Acid.back (a : Acid) (k : Nat) (s : Int × Int) : Int × Int := (if 0 < s.1 - a.add k then s.1 - a.add k + a.f0 else 0, s.2 - a.add k + a.f1)
/-- the ends of the hour h - 1 - d. -/
def Acid.bwd (a : Acid) (h : Nat) : Nat → Int × Int
 | 0 => a.fwd (h - 1)
 | d+1 => (max (a.fwd (h - 2 - d)).1 (a.back (h - 1 - d) (a.bwd h d)).1, min (a.fwd (h - 2 - d)).2 (a.back (h - 1 - d) (a.bwd h d)).2)
def Acid.ends (a : Acid) (h k : Nat) : Int × Int := a.bwd h (h - 1 - k)
def Acid.can (a : Acid) (h : Nat) : Prop := ∀ k, k < h → (a.fwd k).1 ≤ (a.fwd k).2
structure Acid.fine (a : Acid) (h : Nat) : Prop where
 s : 0 ≤ a.s0 ∧ a.s0 ≤ a.s1
 f : 0 ≤ a.f0 ∧ a.f0 ≤ a.f1
 add : ∀ k, k < h → 0 ≤ a.add k
/-- a truth of an acid. -/
structure Acid.truth (a : Acid) (h : Nat) (x : Nat → Int) : Prop where
 first : a.s0 + a.add 0 ≤ x 0 ∧ x 0 ≤ a.s1 + a.add 0
 next : ∀ k, k + 1 < h → max 0 (x k - a.f1) + a.add (k+1) ≤ x (k+1) ∧ x (k+1) ≤ max 0 (x k - a.f0) + a.add (k+1)
 clue : ∀ i, i < a.n → ∀ k : Nat, k < h → (a.cl i).1 = (k : Int) → (a.cl i).2.1 ≤ x k ∧ x k ≤ (a.cl i).2.2
theorem cuts_le (k : Int) (cl : Nat → Int × Int × Int) (s : Int × Int) : ∀ n, s.1 ≤ (cuts k cl n s).1 ∧ (cuts k cl n s).2 ≤ s.2
 | 0 => ⟨Int.le_refl _, Int.le_refl _⟩
 | n+1 => by
  have h := cuts_le k cl s n
  unfold cuts
  split <;> (try dsimp only) <;> omega
theorem cuts_clue (k : Int) (cl : Nat → Int × Int × Int) (s : Int × Int) : ∀ n i, i < n → (cl i).1 = k → (cl i).2.1 ≤ (cuts k cl n s).1 ∧ (cuts k cl n s).2 ≤ (cl i).2.2
 | 0, i, hi, _ => absurd hi (Nat.not_lt_zero i)
 | n+1, i, hi, he => by
  unfold cuts
  rcases Nat.lt_or_eq_of_le (Nat.le_of_lt_succ hi) with h | rfl
  ·have := cuts_clue k cl s n i h he
   split <;> (try dsimp only) <;> omega
  ·rw [if_pos he]; (try dsimp only); omega
theorem cuts_in (k : Int) (cl : Nat → Int × Int × Int) (s : Int × Int) (v : Int) (hs : s.1 ≤ v ∧ v ≤ s.2) : ∀ n, (∀ i, i < n → (cl i).1 = k → (cl i).2.1 ≤ v ∧ v ≤ (cl i).2.2) → (cuts k cl n s).1 ≤ v ∧ v ≤ (cuts k cl n s).2
 | 0, _ => hs
 | n+1, h => by
  have ih := cuts_in k cl s v hs n (fun i hi => h i (by omega))
  unfold cuts
  split
  ·next he => have := h n (by omega) he; (try dsimp only); omega
  ·exact ih
theorem Acid.fwd_in {a : Acid} {h : Nat} {x : Nat → Int} (ht : a.truth h x) : ∀ k, k < h → (a.fwd k).1 ≤ x k ∧ x k ≤ (a.fwd k).2
 | 0, hk => by
  unfold Acid.fwd Acid.next
  rw [if_pos rfl]
  exact cuts_in _ _ _ _ ht.first _ fun i hi he => ht.clue i hi 0 hk he
 | k+1, hk => by
  have ih := Acid.fwd_in ht k (by omega)
  have hn := ht.next k hk
  unfold Acid.fwd Acid.next
  rw [if_neg (by omega)]
  refine cuts_in _ _ _ _ ?_ _ fun i hi he => ht.clue i hi (k+1) hk he
  unfold Acid.fall
  dsimp only
  omega
theorem Acid.can_of {a : Acid} {h : Nat} {x : Nat → Int} (ht : a.truth h x) : a.can h := fun k hk => by have := Acid.fwd_in ht k hk; omega
theorem Acid.bwd_in {a : Acid} {h : Nat} {x : Nat → Int} (hf : a.fine h) (ht : a.truth h x) : ∀ d, d < h → (a.bwd h d).1 ≤ x (h - 1 - d) ∧ x (h - 1 - d) ≤ (a.bwd h d).2
 | 0, hd => by unfold Acid.bwd; exact Acid.fwd_in ht (h - 1) (by omega)
 | d+1, hd => by
  have ih := Acid.bwd_in hf ht d (by omega)
  have hw := Acid.fwd_in ht (h - 2 - d) (by omega)
  have hn := ht.next (h - 2 - d) (by omega)
  have hf' := hf.f
  have e : h - 2 - d + 1 = h - 1 - d := by omega
  have e2 : h - 1 - (d + 1) = h - 2 - d := by omega
  rw [e] at hn
  rw [e2]
  -- a strength is never below 0
  have h0 : ∀ k, k < h → 0 ≤ x k := fun k hk => by
   cases k with
   | zero => have := ht.first; have := hf.s; have := hf.add 0 hk; omega
   | succ k => have := ht.next k hk; have := hf.add (k+1) hk; omega
  have hx := h0 (h - 2 - d) (by omega)
  unfold Acid.bwd Acid.back
  dsimp only
  split <;> omega
theorem Acid.ends_in {a : Acid} {h : Nat} {x : Nat → Int} (hf : a.fine h) (ht : a.truth h x) (k : Nat) (hk : k < h) : (a.ends h k).1 ≤ x k ∧ x k ≤ (a.ends h k).2 := by
 have := Acid.bwd_in hf ht (h - 1 - k) (by omega)
 rw [show h - 1 - (h - 1 - k) = k by omega] at this
 exact this
/-- the ends of an hour, by those of the next one. -/
theorem Acid.ends_step (a : Acid) (h k : Nat) (hk : k + 1 < h) : a.ends h k = (max (a.fwd k).1 (a.back (k+1) (a.ends h (k+1))).1, min (a.fwd k).2 (a.back (k+1) (a.ends h (k+1))).2) := by
 unfold Acid.ends
 rw [show h - 1 - k = (h - 1 - (k+1)) + 1 by omega, Acid.bwd, show h - 2 - (h - 1 - (k+1)) = k by omega, show h - 1 - (h - 1 - (k+1)) = k + 1 by omega]
theorem Acid.ends_last (a : Acid) (h : Nat) (hh : 1 ≤ h) : a.ends h (h - 1) = a.fwd (h - 1) := by
 unfold Acid.ends
 rw [show h - 1 - (h - 1) = 0 by omega, Acid.bwd]
theorem Acid.fwd_le (a : Acid) (k : Nat) : max 0 ((a.fwd k).1 - a.f1) + a.add (k+1) ≤ (a.fwd (k+1)).1 ∧ (a.fwd (k+1)).2 ≤ max 0 ((a.fwd k).2 - a.f0) + a.add (k+1) := by
 have h := cuts_le ((k+1 : Nat) : Int) a.cl (a.fall (k+1) (a.fwd k)) a.n
 have e : a.fwd (k+1) = cuts ((k+1 : Nat) : Int) a.cl a.n (a.fall (k+1) (a.fwd k)) := by
  rw [Acid.fwd, Acid.next, if_neg (by omega)]
 rw [e]
 unfold Acid.fall at h ⊢
 exact h
theorem Acid.fwd_low {a : Acid} {h : Nat} (hf : a.fine h) : ∀ k, k < h → 0 ≤ (a.fwd k).1
 | 0, hk => by
  have h1 := cuts_le ((0 : Nat) : Int) a.cl (a.s0 + a.add 0, a.s1 + a.add 0) a.n
  have e : a.fwd 0 = cuts ((0 : Nat) : Int) a.cl a.n (a.s0 + a.add 0, a.s1 + a.add 0) := by rw [Acid.fwd, Acid.next, if_pos rfl]
  rw [e]
  have := hf.s; have := hf.add 0 hk
  dsimp only at h1
  omega
 | k+1, hk => by
  have := Acid.fwd_le a k
  have := hf.add (k+1) hk
  omega
/-- the ends lie within those by the hours before, and are not empty. -/
theorem Acid.bwd_ok {a : Acid} {h : Nat} (hf : a.fine h) (hc : a.can h) : ∀ d, d < h → ((a.fwd (h - 1 - d)).1 ≤ (a.bwd h d).1 ∧ (a.bwd h d).2 ≤ (a.fwd (h - 1 - d)).2) ∧ (a.bwd h d).1 ≤ (a.bwd h d).2
 | 0, hd => by unfold Acid.bwd; exact ⟨⟨Int.le_refl _, Int.le_refl _⟩, hc (h - 1) (by omega)⟩
 | d+1, hd => by
  obtain ⟨⟨i1, i2⟩, i3⟩ := Acid.bwd_ok hf hc d (by omega)
  have hl := Acid.fwd_le a (h - 2 - d)
  rw [show h - 2 - d + 1 = h - 1 - d by omega] at hl
  have h0 := Acid.fwd_low hf (h - 2 - d) (by omega)
  have hcc := hc (h - 2 - d) (by omega)
  have hf' := hf.f
  rw [show h - 1 - (d + 1) = h - 2 - d by omega]
  unfold Acid.bwd Acid.back
  dsimp only
  split <;> omega
theorem Acid.ends_ok {a : Acid} {h : Nat} (hf : a.fine h) (hc : a.can h) (k : Nat) (hk : k < h) : ((a.fwd k).1 ≤ (a.ends h k).1 ∧ (a.ends h k).2 ≤ (a.fwd k).2) ∧ (a.ends h k).1 ≤ (a.ends h k).2 := by
 have := Acid.bwd_ok hf hc (h - 1 - k) (by omega)
 rw [show h - 1 - (h - 1 - k) = k by omega] at this
 exact this
end Go.Drum
namespace Go.Drum
/-- what is lost at some rate in the first k hours. -/
def loss (rate : Int) (x : Nat → Int) : Nat → Int
 | 0 => 0
 | k+1 => loss rate x k + (x k * rate).tdiv 100
theorem tdiv_mono {a b : Int} (h0 : 0 ≤ a) (h : a ≤ b) : 0 ≤ a.tdiv 100 ∧ a.tdiv 100 ≤ b.tdiv 100 := by
 rw [Int.tdiv_eq_ediv_of_nonneg h0, Int.tdiv_eq_ediv_of_nonneg (by omega)]
 omega
theorem loss_mono {rate : Int} {x y : Nat → Int} (hr : 0 ≤ rate) : ∀ k, (∀ i, i < k → 0 ≤ x i ∧ x i ≤ y i) → 0 ≤ loss rate x k ∧ loss rate x k ≤ loss rate y k
 | 0, _ => ⟨Int.le_refl _, Int.le_refl _⟩
 | k+1, h => by
  have ih := loss_mono (x := x) (y := y) hr k (fun i hi => h i (by omega))
  have hk := h k (by omega)
  have h1 : 0 ≤ x k * rate := Int.mul_nonneg hk.1 hr
  have h2 : x k * rate ≤ y k * rate := Int.mul_le_mul_of_nonneg_right hk.2 hr
  have h3 := tdiv_mono h1 h2
  unfold loss
  omega
theorem loss_step {rate : Int} {x : Nat → Int} (hr : 0 ≤ rate) (k : Nat) (hx : 0 ≤ x k) : loss rate x k ≤ loss rate x (k+1) := by
 have h1 : 0 ≤ x k * rate := Int.mul_nonneg hx hr
 have h3 := (tdiv_mono h1 (Int.le_refl _)).1
 rw [loss]
 omega
/-- how rough, or thick, a batch is. -/
def left (n rate : Int) (x : Nat → Int) (k : Nat) : Int := max 0 (n - loss rate x k)
theorem left_mono {n rate : Int} {x y : Nat → Int} (hr : 0 ≤ rate) (k : Nat) (h : ∀ i, i < k → 0 ≤ x i ∧ x i ≤ y i) : left n rate y k ≤ left n rate x k := by
 have := loss_mono hr k h
 unfold left
 omega
theorem left_step {n rate : Int} {x : Nat → Int} (hr : 0 ≤ rate) (k : Nat) (hx : 0 ≤ x k) : left n rate x (k+1) ≤ left n rate x k := by
 have := loss_step (x := x) hr k hx
 unfold left
 omega
end Go.Drum
namespace Go.Proofs.YtlhgkepdoinlnaaGreatDoor
open Go.RowKit Go.Gen
/-- a drum's parts. -/
structure Drm where
 aa : Option Addr
 an : Nat
 ac : Nat
 A : Nat → Nat → Int
 known : Int
 hours : Int
 da : Option Addr
 dn : Nat
 dc : Nat
 D : Nat → Nat → Int
 sa : Option Addr
 sn : Nat
 sc : Nat
 S : Nat → Nat → Int
 ba : Option Addr
 bn : Nat
 bc : Nat
 B : Nat → Nat → Int
@[reducible] def Drm.val (d : Drm) : Value := .agg #[.slice d.aa d.an d.ac, .int .i64 d.known, .int .i64 d.hours, .slice d.da d.dn d.dc, .slice d.sa d.sn d.sc, .slice d.ba d.bn d.bc]
structure DIn (w : World) (d : Drm) : Prop where
 acids : KSl 4 w (.slice d.aa d.an d.ac) d.an d.A
 adds : KSl 1 w (.slice d.da d.dn d.dc) d.dn d.D
 strips : KSl 3 w (.slice d.sa d.sn d.sc) d.sn d.S
 batches : KSl 6 w (.slice d.ba d.bn d.bc) d.bn d.B
theorem DIn.below {w w' : World} {d : Drm} (h : DIn w d) (hb : Below w.heap.size w w') : DIn w' d := ⟨h.acids.below hb, h.adds.below hb, h.strips.below hb, h.batches.below hb⟩
/-- a drum's cells. -/
structure DAt (W : World) (b : Nat) (d : Drm) : Prop where
 k0 : W.cell? ⟨b, 0, none⟩ = some (.slice d.aa d.an d.ac)
 k1 : W.cell? ⟨b, 1, none⟩ = some (.int .i64 d.known)
 k2 : W.cell? ⟨b, 2, none⟩ = some (.int .i64 d.hours)
 k3 : W.cell? ⟨b, 3, none⟩ = some (.slice d.da d.dn d.dc)
 k4 : W.cell? ⟨b, 4, none⟩ = some (.slice d.sa d.sn d.sc)
 k5 : W.cell? ⟨b, 5, none⟩ = some (.slice d.ba d.bn d.bc)
theorem DAt.below {W W' : World} {b : Nat} {d : Drm} {B : Nat} (h : DAt W b d) (hb : Below B W W') (hl : b < B) : DAt W' b d :=
 ⟨(hb.cell (p := ⟨b, 0, none⟩) hl).trans h.k0, (hb.cell (p := ⟨b, 1, none⟩) hl).trans h.k1, (hb.cell (p := ⟨b, 2, none⟩) hl).trans h.k2, (hb.cell (p := ⟨b, 3, none⟩) hl).trans h.k3, (hb.cell (p := ⟨b, 4, none⟩) hl).trans h.k4, (hb.cell (p := ⟨b, 5, none⟩) hl).trans h.k5⟩
theorem DAt.new (w : World) (d : Drm) : DAt (w.alloc (.cells #[.slice d.aa d.an d.ac, .int .i64 d.known, .int .i64 d.hours, .slice d.da d.dn d.dc, .slice d.sa d.sn d.sc, .slice d.ba d.bn d.bc] 27)) w.heap.size d :=
 ⟨cells_new w _ _ rfl, cells_new w _ _ rfl, cells_new w _ _ rfl, cells_new w _ _ rfl, cells_new w _ _ rfl, cells_new w _ _ rfl⟩
/-- a drum's block behind others: what it holds, and that all before it is as it was. -/
structure PoD (w : World) (d : Drm) (W : World) : Prop where
 at' : DAt W w.heap.size d
 old : Below w.heap.size w W
 lt : w.heap.size < W.heap.size
theorem PoD.new (w : World) (d : Drm) : PoD w d (w.alloc (.cells #[.slice d.aa d.an d.ac, .int .i64 d.known, .int .i64 d.hours, .slice d.da d.dn d.dc, .slice d.sa d.sn d.sc, .slice d.ba d.bn d.bc] 27)) :=
 ⟨DAt.new w d, (Below.refl _ _).alloc (Nat.le_refl _) _, by rw [World.size_alloc]; omega⟩
theorem PoD.below {w W W' : World} {d : Drm} (h : PoD w d W) (hb : Below W.heap.size W W') : PoD w d W' :=
 ⟨h.at'.below hb h.lt, h.old.trans (hb.mono h.old.size), Nat.lt_of_lt_of_le h.lt hb.size⟩
theorem PoD.alloc {w W : World} {d : Drm} (h : PoD w d W) (o : Obj) : PoD w d (W.alloc o) := h.below ((Below.refl _ _).alloc (Nat.le_refl _) o)
theorem PoD.drew {w W : World} {d : Drm} (h : PoD w d W) : PoD w d W.drew := h.below (Below.refl _ _).drew
def spB (l h most : Int) : Bool := decide (0 ≤ l ∧ l ≤ h ∧ h ≤ most)
theorem spB_iff {l h most : Int} : spB l h most = true ↔ 0 ≤ l ∧ l ≤ h ∧ h ≤ most := decide_eq_true_iff
def acB (f : Nat → Int) : Bool := spB (f 0) (f 1) 100 && spB (f 2) (f 3) 20
def stB (hours : Int) (f : Nat → Int) : Bool := inB (f 0) 0 (hours - 1) && (inB (f 1) 0 2000 && inB (f 2) 0 50)
def baB (f : Nat → Int) : Bool := inB (f 0) 0 1000 && (inB (f 1) 0 1000 && (inB (f 2) 0 1000 && (inB (f 3) 0 1000 && (inB (f 4) 0 100 && inB (f 5) 0 100))))
/-- a drum as defined. -/
structure Drm.Ok (d : Drm) : Prop where
 acids : 1 ≤ d.an ∧ d.an ≤ 4
 known : 1 ≤ d.known ∧ d.known < 2 ^ d.an
 hours : 1 ≤ d.hours ∧ d.hours ≤ 12
 adds : (d.dn : Int) = d.hours
 strips : d.sn ≤ 6
 batches : 1 ≤ d.bn ∧ d.bn ≤ 5
 acid : ∀ i, i < d.an → acB (d.A i) = true
 add : ∀ i, i < d.dn → inB (d.D i 0) 0 100 = true
 strip : ∀ i, i < d.sn → stB d.hours (d.S i) = true
 batch : ∀ i, i < d.bn → baB (d.B i) = true
end Go.Proofs.YtlhgkepdoinlnaaGreatDoor
namespace Go.Proofs.YtlhgkepdoinlnaaGreatDoor
open Go.RowKit Go.Gen
set_option maxHeartbeats 400000 in
theorem within_any (n lo hi : Int) (w : World) :
  Calls Tryz.prog 61 #[.int .i64 n, .int .i64 lo, .int .i64 hi] w fun e w' => e = .returned (.bool (inB n lo hi)) ∧ w = w' := by
 by_cases h1 : lo ≤ n
 ·by_cases h2 : n ≤ hi
  ·go_enter Tryz.func61, Tryz.ntmps61
   go_wp2
   go_ret
   exact ⟨ret_bool (by first | exact (inB_yes h1 h2).symm | exact (inB_no2 (by omega)).symm), rfl⟩
  ·go_enter Tryz.func61, Tryz.ntmps61
   go_wp2
   go_ret
   exact ⟨ret_bool (by first | exact (inB_yes h1 h2).symm | exact (inB_no2 (by omega)).symm), rfl⟩
 ·go_enter Tryz.func61, Tryz.ntmps61
  go_wp2
  go_ret
  exact ⟨ret_bool (inB_no1 (by omega)).symm, rfl⟩
set_option maxHeartbeats 400000 in
theorem in_any (n lo hi : Int) (w : World) :
  Calls Tryz.prog 65 #[.int .i64 n, .int .i64 lo, .int .i64 hi] w fun e w' => e = .returned (.bool (inB n lo hi)) ∧ w = w' := by
 by_cases h1 : lo ≤ n
 ·by_cases h2 : n ≤ hi
  ·go_enter Tryz.func65, Tryz.ntmps65
   go_wp2
   go_ret
   exact ⟨ret_bool (by first | exact (inB_yes h1 h2).symm | exact (inB_no2 (by omega)).symm), rfl⟩
  ·go_enter Tryz.func65, Tryz.ntmps65
   go_wp2
   go_ret
   exact ⟨ret_bool (by first | exact (inB_yes h1 h2).symm | exact (inB_no2 (by omega)).symm), rfl⟩
 ·go_enter Tryz.func65, Tryz.ntmps65
  go_wp2
  go_ret
  exact ⟨ret_bool (inB_no1 (by omega)).symm, rfl⟩
set_option maxHeartbeats 400000 in
theorem isEmpty_any (l h : Int) (w : World) :
  Calls Tryz.prog 82 #[.agg #[.int .i64 l, .int .i64 h]] w fun e w' => e = .returned (.bool (decide (h < l))) ∧ Below w.heap.size w w' := by
 by_cases hh : h < l
 ·rw [decide_eq_true hh]
  go_enter Tryz.func82, Tryz.ntmps82
  go_wp2
  go_ret
  exact ⟨by first | rfl | (simp; omega), (Below.refl _ _).alloc (Nat.le_refl _) _⟩
 ·rw [decide_eq_false hh]
  go_enter Tryz.func82, Tryz.ntmps82
  go_wp2
  go_ret
  exact ⟨by first | rfl | (simp; omega), (Below.refl _ _).alloc (Nat.le_refl _) _⟩
set_option maxRecDepth 100000 in
set_option maxHeartbeats 400000 in
theorem lies_any (n lo hi : Int) (w : World) :
  Calls Tryz.prog 97 #[.int .i64 n, .agg #[.int .i64 lo, .int .i64 hi]] w fun e w' => e = .returned (.bool (inB n lo hi)) ∧ Below w.heap.size w w' := by
 go_enter Tryz.func97, Tryz.ntmps97
 go_wp2_with (go_at_call 61; refine (within_any _ _ _ _).mono ?_; rintro e w' ⟨rfl, rfl⟩)
 go_ret
 exact ⟨rfl, (Below.refl _ _).alloc (Nat.le_refl _) _⟩
set_option maxRecDepth 100000 in
set_option maxHeartbeats 400000 in
theorem around_any (n by_ : Int) (h1 : -100000 ≤ n) (h2 : n ≤ 100000) (h3 : 0 ≤ by_) (h4 : by_ ≤ 100000) (w : World) :
  Calls Tryz.prog 114 #[.int .i64 n, .int .i64 by_] w fun e w' => e = .returned (.agg #[.int .i64 (n - by_), .int .i64 (n + by_)]) ∧ Below w.heap.size w w' := by
 go_enter Tryz.func114, Tryz.ntmps114
 go_wp2
 refine bodyPost_ret (v := .agg #[.int .i64 (n - by_), .int .i64 (n + by_)]) (by simp [results, Tryz.results114, go_sem]) rfl ⟨rfl, ?_⟩
 exact (Below.refl _ _).alloc (Nat.le_refl _) _
set_option maxRecDepth 100000 in
set_option maxHeartbeats 400000 in
theorem common_any (a0 a1 b0 b1 : Int) (w : World) :
  Calls Tryz.prog 122 #[.agg #[.int .i64 a0, .int .i64 a1], .agg #[.int .i64 b0, .int .i64 b1]] w fun e w' => e = .returned (.agg #[.int .i64 (max a0 b0), .int .i64 (min a1 b1)]) ∧ Below w.heap.size w w' := by
 go_enter Tryz.func122, Tryz.ntmps122
 go_wp2
 all_goals
  refine bodyPost_ret (v := .agg #[.int .i64 (max a0 b0), .int .i64 (min a1 b1)]) (by simp [results, Tryz.results122, go_sem] <;> omega) rfl ⟨rfl, ?_⟩
  exact (((Below.refl _ _).alloc (Nat.le_refl _) _).alloc (by simp) _).alloc (by simp; omega) _
set_option maxRecDepth 100000 in
set_option maxHeartbeats 400000 in
theorem moved_any (lo hi by_ : Int) (h1 : -100000 ≤ lo ∧ lo ≤ 100000) (h2 : -100000 ≤ hi ∧ hi ≤ 100000) (h3 : -100000 ≤ by_ ∧ by_ ≤ 100000) (w : World) :
  Calls Tryz.prog 137 #[.agg #[.int .i64 lo, .int .i64 hi], .int .i64 by_] w fun e w' => e = .returned (.agg #[.int .i64 (lo + by_), .int .i64 (hi + by_)]) ∧ Below w.heap.size w w' := by
 obtain ⟨a1, a2⟩ := h1
 obtain ⟨a3, a4⟩ := h2
 obtain ⟨a5, a6⟩ := h3
 go_enter Tryz.func137, Tryz.ntmps137
 go_wp2
 all_goals
  refine bodyPost_ret (v := .agg #[.int .i64 (lo + by_), .int .i64 (hi + by_)]) (by simp [results, Tryz.results137, go_sem] <;> omega) rfl ⟨rfl, ?_⟩
  exact ((Below.refl _ _).alloc (Nat.le_refl _) _).alloc (by simp) _
set_option maxRecDepth 100000 in
set_option maxHeartbeats 400000 in
theorem reaching_any (lo hi n : Int) (w : World) :
  Calls Tryz.prog 71 #[.agg #[.int .i64 lo, .int .i64 hi], .int .i64 n] w fun e w' => e = .returned (.agg #[.int .i64 (min lo n), .int .i64 (max hi n)]) ∧ Below w.heap.size w w' := by
 go_enter Tryz.func71, Tryz.ntmps71
 go_wp2
 all_goals
  refine bodyPost_ret (v := .agg #[.int .i64 (min lo n), .int .i64 (max hi n)]) (by simp [results, Tryz.results71, go_sem] <;> omega) rfl ⟨rfl, ?_⟩
  exact ((Below.refl _ _).alloc (Nat.le_refl _) _).alloc (by simp) _
set_option maxRecDepth 100000 in
set_option maxHeartbeats 400000 in
theorem rspan_any (lo hi most : Int) (w : World) :
  Calls Tryz.prog 67 #[.agg #[.int .i64 lo, .int .i64 hi], .int .i64 most] w fun e w' => e = .returned (.bool (spB lo hi most)) ∧ Below w.heap.size w w' := by
 by_cases c1 : 0 ≤ lo
 ·by_cases c2 : lo ≤ hi
  ·by_cases c3 : hi ≤ most
   ·rw [spB_iff.2 ⟨c1, c2, c3⟩]
    go_enter Tryz.func67, Tryz.ntmps67
    go_wp2
    go_ret
    exact ⟨by first | rfl | (simp; omega), (Below.refl _ _).alloc (Nat.le_refl _) _⟩
   ·rw [show spB lo hi most = false from decide_eq_false fun h => c3 h.2.2]
    go_enter Tryz.func67, Tryz.ntmps67
    go_wp2
    go_ret
    exact ⟨by first | rfl | (simp; omega), (Below.refl _ _).alloc (Nat.le_refl _) _⟩
  ·rw [show spB lo hi most = false from decide_eq_false fun h => c2 h.2.1]
   go_enter Tryz.func67, Tryz.ntmps67
   go_wp2
   go_ret
   exact ⟨by first | rfl | (simp; omega), (Below.refl _ _).alloc (Nat.le_refl _) _⟩
 ·rw [show spB lo hi most = false from decide_eq_false fun h => c1 h.1]
  go_enter Tryz.func67, Tryz.ntmps67
  go_wp2
  go_ret
  exact ⟨by first | rfl | (simp; omega), (Below.refl _ _).alloc (Nat.le_refl _) _⟩
end Go.Proofs.YtlhgkepdoinlnaaGreatDoor
