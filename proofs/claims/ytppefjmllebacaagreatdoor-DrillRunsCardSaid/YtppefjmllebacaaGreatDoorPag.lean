/- A part of the proof: see the last file. -/
import Derived.Deep.RegionHeld
import Derived.Test.YtppefjmllebacaaGreatDoorPaf
import Derived.Test.YtppefjmllebacaaGreatDoorPaa
import Derived.Deep.MidRow
set_option linter.unusedVariables false
set_option linter.unusedSimpArgs false
set_option linter.unusedSectionVars false
/-! A region in which late operations (L: the stores of an assignment) break the condition S by which loads are taken first: S is asked only while none of them has come up; S0 is asked throughout. No seat. -/
namespace Go
section
variable {P : Program} {ops : Array Oper} {Q : Exit → Act → World → Prop} {md : Region.Mode} {S0 S : World → Prop} {L : List Nat}

/-- none of the late ones has come up. -/
def aliveB (L : List Nat) (l : Array Bool) : Bool := L.all fun j => !(l.getD j false)
def InvP (L : List Nat) (S0 S : World → Prop) (l : Array Bool) (w : World) : Prop := S0 w ∧ (aliveB L l = true → S w)
theorem aliveB_set {l : Array Bool} {i : Nat} (hi : L.contains i = false) : aliveB L (l.setIfInBounds i true) = aliveB L l := by
  unfold aliveB
  rw [Bool.eq_iff_iff, List.all_eq_true, List.all_eq_true]
  have key : ∀ j ∈ L, (l.setIfInBounds i true).getD j false = l.getD j false := fun j hj =>
    getD_set_ne false (fun h => by subst h; rw [List.contains_iff_mem.2 hj] at hi; cases hi)
  exact ⟨fun h j hj => by rw [← key j hj]; exact h j hj, fun h j hj => by rw [key j hj]; exact h j hj⟩
/-- Whatever order is picked from here on, and the condition holds behind each operation. -/
def wpAnyP (P : Program) (md : Region.Mode) (ops : Array Oper) (Q : Exit → Act → World → Prop) (L : List Nat) (S0 S : World → Prop) : Nat → Array Bool → Act → World → Prop
  | 0, l, a, w => Region.ready md ops l = [] ∧ Q .normal a w
  | n + 1, l, a, w => (Region.ready md ops l = [] → Q .normal a w) ∧ ∀ i ∈ Region.ready md ops l, wpOp P ops Q i (fun a' w' => InvP L S0 S (l.setIfInBounds i true) w' ∧ wpAnyP P md ops Q L S0 S n (l.setIfInBounds i true) a' w') a w
theorem wpAny_of_late : ∀ (n : Nat) (l : Array Bool) (a : Act) (w : World), wpAnyP P md ops Q L S0 S n l a w → wpAny P md ops Q n l a w
  | 0, _, _, _, h => h
  | n + 1, _, _, _, h => ⟨h.1, fun i hi => wpOp_mono (fun a' w' h' => wpAny_of_late n _ a' w' h'.2) (h.2 i hi)⟩
/-- what has come up is closed: each has those that it waits for. -/
def ClosedP (md : Region.Mode) (ops : Array Oper) (l : Array Bool) : Prop :=
  ∀ k o, ops[k]? = some o → l.getD k false = true → ∀ e ∈ o.after, Region.binds md e = true → l.getD e.on false = true
def closedPB (md : Region.Mode) (ops : Array Oper) (l : Array Bool) : Bool :=
  (List.range ops.size).all fun k => !(l.getD k false) || ((ops[k]?).map fun o => o.after.toList.all fun e => !(Region.binds md e) || l.getD e.on false).getD true
theorem closedPB_ok {l : Array Bool} (h : closedPB md ops l = true) : ClosedP md ops l := fun k o ho hk e he hb => by
  have hlt : k < ops.size := (Array.getElem?_eq_some_iff.1 ho).1
  have h1 := List.all_eq_true.1 h k (List.mem_range.2 hlt)
  rw [hk, ho] at h1
  simp only [Bool.not_true, Bool.false_or, Option.map_some, Option.getD_some, List.all_eq_true] at h1
  have h2 := h1 e (by simpa using he)
  rw [hb] at h2
  simpa using h2
theorem ClosedP.set {l : Array Bool} {j : Nat} (h : ClosedP md ops l) (hj : j ∈ Region.ready md ops l) : ClosedP md ops (l.setIfInBounds j true) := fun k o ho hk e he hb => by
  obtain ⟨_, oj, hoj, hall⟩ := mem_ready.1 hj
  refine getD_set_true ?_
  by_cases hjk : j = k
  · subst hjk
    rw [hoj] at ho
    cases ho
    exact hall e he hb
  · rw [getD_set_ne false hjk] at hk
    exact h k o ho hk e he hb
/-- j waits for i, at most so many steps back. -/
def waitsB (md : Region.Mode) (ops : Array Oper) (i : Nat) : Nat → Nat → Bool
  | 0, _ => false
  | n + 1, j => ((ops[j]?).map fun o => o.after.toList.any fun e => Region.binds md e && (e.on == i || waitsB md ops i n e.on)).getD false
theorem waitsB_listed {i : Nat} {l : Array Bool} (h : ClosedP md ops l) : ∀ (n j : Nat), waitsB md ops i n j = true → l.getD j false = true → l.getD i false = true
  | 0, _, hw, _ => by cases hw
  | n + 1, j, hw, hj => by
    unfold waitsB at hw
    cases ho : ops[j]? with
    | none => rw [ho] at hw; cases hw
    | some o =>
      rw [ho] at hw
      simp only [Option.map_some, Option.getD_some, List.any_eq_true, Bool.and_eq_true, Bool.or_eq_true, beq_iff_eq] at hw
      obtain ⟨e, he, hb, hi⟩ := hw
      have he' : e ∈ o.after := by simpa using he
      have hl := h j o ho hj e he' hb
      rcases hi with rfl | hi
      · exact hl
      · exact waitsB_listed h n e.on hi hl
theorem aliveB_of {i d : Nat} {l : Array Bool} (h : ClosedP md ops l) (hw : (L.all fun j => waitsB md ops i d j) = true) (hi : l.getD i false = false) : aliveB L l = true := by
  unfold aliveB
  rw [List.all_eq_true] at hw ⊢
  intro j hj
  cases hl : l.getD j false with
  | false => rfl
  | true => rw [waitsB_listed h d j (hw j hj) hl] at hi; cases hi
theorem wpAnyP_first {SS : World → Prop} {i : Nat} {oi : Oper} {v : Value} (hi : ops[i]? = some oi) (hsel : ∀ (j : Nat) (o : Oper) cs b, ops[j]? = some o → o.op ≠ .select cs b)
    (hQ : ∀ c a w, Q (.panic c) (a.put oi.dst v) w → Q (.panic c) a w) (hiL : L.contains i = false)
    (hSS : ∀ (l : Array Bool) (w : World), ClosedP md ops l → l.getD i false = false → InvP L S0 S l w → SS w) :
    ∀ (fuel : Nat) (listed : Array Bool) (a : Act) (w : World), ClosedP md ops listed →
      (∀ j oj, ops[j]? = some oj → j ≠ i → listed.getD j true = false → (∀ e ∈ oj.after, Region.binds md e = true → e.on ≠ i) → oi.apart ops oj = true) →
      i ∈ Region.ready md ops listed → YieldsIf P ops SS oi v a → InvP L S0 S listed w →
      wpAnyP P md ops Q L S0 S fuel (listed.setIfInBounds i true) (a.put oi.dst v) w → wpAnyP P md ops Q L S0 S (fuel + 1) listed a w := by
  have hun : ∀ {l : Array Bool}, i ∈ Region.ready md ops l → l.getD i false = false := fun {l} hr => by
    have h0 := (mem_ready.1 hr).1
    rcases Nat.lt_or_ge i l.size with h' | h'
    · simp [h'] at h0 ⊢; exact h0
    · simp [Array.getElem?_eq_none h'] at h0
  have hself : ∀ {l : Array Bool} {w : World}, InvP L S0 S l w → InvP L S0 S (l.setIfInBounds i true) w := fun {l w} hI => ⟨hI.1, fun h => hI.2 (by rw [aliveB_set hiL] at h; exact h)⟩
  intro fuel
  induction fuel with
  | zero =>
    intro listed a w hcl _ hr hy hI H
    refine ⟨fun h => (by rw [h] at hr; cases hr), fun j hj => ?_⟩
    by_cases hji : j = i
    · subst hji; exact hy.wpOp hi (hSS listed w hcl (hun hr) hI) ⟨hself hI, H⟩
    · have := ready_mono hj hji
      rw [H.1] at this
      cases this
  | succ fuel ih =>
    intro listed a w hcl hfree hr hy hI H
    refine ⟨fun h => (by rw [h] at hr; cases hr), fun j hj => ?_⟩
    by_cases hji : j = i
    · subst hji; exact hy.wpOp hi (hSS listed w hcl (hun hr) hI) ⟨hself hI, H⟩
    · have h1 := H.2 j (ready_mono hj hji)
      obtain ⟨hjun, oj, hoj, hall⟩ := mem_ready.1 hj
      have hiun := hun hr
      have hnot : ∀ e ∈ oj.after, Region.binds md e = true → e.on ≠ i := fun e he hb heq => by
        have h1 := hall e he hb
        rw [heq, hiun] at h1
        cases h1
      have h2 := wpOp_putIf hoj (hfree j oj hoj hji hjun hnot) (fun cs b => hsel i oi cs b hi) (fun cs b => hsel j oj cs b hoj) hQ hy h1
      have hfree' : ∀ k ok, ops[k]? = some ok → k ≠ i → (listed.setIfInBounds j true).getD k true = false →
          (∀ e ∈ ok.after, Region.binds md e = true → e.on ≠ i) → oi.apart ops ok = true := fun k ok hk hki hun hno => by
        refine hfree k ok hk hki ?_ hno
        by_cases hjk : j = k
        · subst hjk; exact hjun
        · rw [getD_set_ne true hjk] at hun; exact hun
      refine wpOp_mono (fun a' w' h3 => ?_) h2
      have h4 := h3.2.1
      have h5 := h3.2.2
      rw [Array.setIfInBounds_comm _ _ (Ne.symm hji)] at h4 h5
      have hI' : InvP L S0 S (listed.setIfInBounds j true) w' := ⟨h4.1, fun h => h4.2 (by rw [aliveB_set hiL]; exact h)⟩
      exact ⟨hI', ih (listed.setIfInBounds j true) a' w' (hcl.set hj) hfree' (ready_mono hr (Ne.symm hji)) h3.1 hI' h5⟩
/-- take number i first, by what holds throughout. -/
theorem wpAnyP_take0 {i : Nat} {oi : Oper} {v : Value} {fuel : Nat} {listed : Array Bool} {a : Act} {w : World} (hi : ops[i]? = some oi)
    (hs : Region.noSelect ops = true) (hf : Region.free md ops listed i = true) (hr : (Region.ready md ops listed).contains i = true)
    (hc : closedPB md ops listed = true) (hiL : L.contains i = false)
    (hQ : ∀ c a w, Q (.panic c) (a.put oi.dst v) w → Q (.panic c) a w) (hy : YieldsIf P ops S0 oi v a) (hI : S0 w ∧ S w)
    (h : wpAnyP P md ops Q L S0 S fuel (listed.setIfInBounds i true) (a.put oi.dst v) w) : wpAnyP P md ops Q L S0 S (fuel + 1) listed a w :=
  wpAnyP_first hi (Region.noSelect_spec hs) hQ hiL (fun _ _ _ _ h => h.1) fuel listed a w (closedPB_ok hc) (Region.free_spec hi hf) (by simpa using hr) hy ⟨hI.1, fun _ => hI.2⟩ h
/-- the same, behind a late one. -/
theorem wpAnyP_takeB {i : Nat} {oi : Oper} {v : Value} {fuel : Nat} {listed : Array Bool} {a : Act} {w : World} (hi : ops[i]? = some oi)
    (hs : Region.noSelect ops = true) (hf : Region.free md ops listed i = true) (hr : (Region.ready md ops listed).contains i = true)
    (hc : closedPB md ops listed = true) (hiL : L.contains i = false) (hd : aliveB L listed = false)
    (hQ : ∀ c a w, Q (.panic c) (a.put oi.dst v) w → Q (.panic c) a w) (hy : YieldsIf P ops S0 oi v a) (hI : S0 w)
    (h : wpAnyP P md ops Q L S0 S fuel (listed.setIfInBounds i true) (a.put oi.dst v) w) : wpAnyP P md ops Q L S0 S (fuel + 1) listed a w :=
  wpAnyP_first hi (Region.noSelect_spec hs) hQ hiL (fun _ _ _ _ h => h.1) fuel listed a w (closedPB_ok hc) (Region.free_spec hi hf) (by simpa using hr) hy ⟨hI, fun h => by rw [hd] at h; cases h⟩ h
/-- take number i first, by what holds till a late one comes up; each of these waits for it. -/
theorem wpAnyP_take {i : Nat} {oi : Oper} {v : Value} {fuel : Nat} {listed : Array Bool} {a : Act} {w : World} (d : Nat) (hi : ops[i]? = some oi)
    (hs : Region.noSelect ops = true) (hf : Region.free md ops listed i = true) (hr : (Region.ready md ops listed).contains i = true)
    (hc : closedPB md ops listed = true) (hiL : L.contains i = false) (hw : (L.all fun j => waitsB md ops i d j) = true)
    (hQ : ∀ c a w, Q (.panic c) (a.put oi.dst v) w → Q (.panic c) a w) (hy : YieldsIf P ops (fun w => S0 w ∧ S w) oi v a) (hI : S0 w ∧ S w)
    (h : wpAnyP P md ops Q L S0 S fuel (listed.setIfInBounds i true) (a.put oi.dst v) w) : wpAnyP P md ops Q L S0 S (fuel + 1) listed a w :=
  wpAnyP_first hi (Region.noSelect_spec hs) hQ hiL (fun _ _ hcl hun h => ⟨h.1, h.2 (aliveB_of hcl hw hun)⟩) fuel listed a w (closedPB_ok hc) (Region.free_spec hi hf) (by simpa using hr) hy ⟨hI.1, fun _ => hI.2⟩ h
theorem wpAnyP_done {listed : Array Bool} {a : Act} {w : World} (hr : Region.ready md ops listed = []) (h : Q .normal a w) : ∀ fuel, wpAnyP P md ops Q L S0 S fuel listed a w
  | 0 => ⟨hr, h⟩
  | _ + 1 => ⟨fun _ => h, by rw [hr]; simp⟩
def AllReadyP (P : Program) (md : Region.Mode) (ops : Array Oper) (Q : Exit → Act → World → Prop) (L : List Nat) (S0 S : World → Prop) (fuel : Nat) (listed : Array Bool) (a : Act) (w : World) (rs : List Nat) : Prop :=
  ∀ i ∈ rs, wpOp P ops Q i (fun a' w' => InvP L S0 S (listed.setIfInBounds i true) w' ∧ wpAnyP P md ops Q L S0 S fuel (listed.setIfInBounds i true) a' w') a w
theorem AllReadyP.nil {fuel : Nat} {listed : Array Bool} {a : Act} {w : World} : AllReadyP P md ops Q L S0 S fuel listed a w [] := fun _ h => by cases h
/-- an operation before which none of the late ones has come up: both conditions are shown. -/
theorem AllReadyP.cons {fuel : Nat} {listed : Array Bool} {a : Act} {w : World} {i : Nat} {o : Oper} {rs : List Nat} (ho : ops[i]? = some o)
    (h : ∀ K' : Act → World → Prop, Shut (∀ a w, S0 w ∧ S w → (S0 w ∧ S w → wpAnyP P md ops Q L S0 S fuel (listed.setIfInBounds i true) a w) → K' a w) → if Region.wanted o (yielded ops a.tmps) = true then Oper.wp P o a w K' Q else K' (a.put o.dst undef) w)
    (hs : AllReadyP P md ops Q L S0 S fuel listed a w rs) : AllReadyP P md ops Q L S0 S fuel listed a w (i :: rs) := fun j hj => by
  rcases List.mem_cons.1 hj with rfl | hj
  · exact wpOp_step ho (fun K' hK => h K' (fun a w hS hW => hK a w ⟨⟨hS.1, fun _ => hS.2⟩, hW hS⟩))
  · exact hs j hj
/-- a late one, or one behind a late one. -/
theorem AllReadyP.behind {fuel : Nat} {listed : Array Bool} {a : Act} {w : World} {i : Nat} {o : Oper} {rs : List Nat} (ho : ops[i]? = some o) (hl : aliveB L (listed.setIfInBounds i true) = false)
    (h : ∀ K' : Act → World → Prop, Shut (∀ a w, S0 w → (S0 w → wpAnyP P md ops Q L S0 S fuel (listed.setIfInBounds i true) a w) → K' a w) → if Region.wanted o (yielded ops a.tmps) = true then Oper.wp P o a w K' Q else K' (a.put o.dst undef) w)
    (hs : AllReadyP P md ops Q L S0 S fuel listed a w rs) : AllReadyP P md ops Q L S0 S fuel listed a w (i :: rs) := fun j hj => by
  rcases List.mem_cons.1 hj with rfl | hj
  · have hI : ∀ {w : World}, S0 w → InvP L S0 S (listed.setIfInBounds j true) w := fun hS => ⟨hS, fun h => by rw [hl] at h; cases h⟩
    exact wpOp_step ho (fun K' hK => h K' (fun a w hS hW => hK a w ⟨hI hS, hW hS⟩))
  · exact hs j hj
theorem wpAnyP_ready {rs : List Nat} {fuel : Nat} {listed : Array Bool} {a : Act} {w : World} (hr : Region.ready md ops listed = rs) (hne : rs ≠ [])
    (h : AllReadyP P md ops Q L S0 S fuel listed a w rs) : wpAnyP P md ops Q L S0 S (fuel + 1) listed a w := ⟨fun h0 => absurd (hr ▸ h0) hne, hr ▸ h⟩
theorem wp_region_late (L : List Nat) (S0 S : World → Prop) {id : Nat} {a : Act} {w : World} (hm : P.follows .mixedOrders = true) (hS : S0 w.drew ∧ S w.drew)
    (h : S0 w.drew ∧ S w.drew → wpAnyP P .any ops Q L S0 S ops.size (Array.replicate ops.size false) a w.drew) : (Code.region id ops true).wp P Q a w :=
  wp_region_any hm (wpAny_of_late _ _ _ _ (h hS))
end
end Go
namespace Go.Proofs.YtppefjmllebacaaGreatDoor
open Go.RowKit
/-- the cells of marks: a blank, and two spans. -/
def markCells (f : Nat → Int × Int × Int × Int × Int) : Nat → List Value
  | 0 => []
  | n + 1 => markCells f n ++ [.int .i64 (f n).1, .int .i64 (f n).2.1, .int .i64 (f n).2.2.1, .int .i64 (f n).2.2.2.1, .int .i64 (f n).2.2.2.2]
theorem markCells_len (f : Nat → Int × Int × Int × Int × Int) : ∀ n, (markCells f n).length = n * 5
  | 0 => rfl
  | n + 1 => by rw [markCells, List.length_append, markCells_len f n]; simp; omega
theorem markCells_at (f : Nat → Int × Int × Int × Int × Int) : ∀ {n i : Nat}, i < n → (markCells f n)[i * 5]? = some (.int .i64 (f i).1) ∧ (markCells f n)[i * 5 + 1]? = some (.int .i64 (f i).2.1) ∧ (markCells f n)[i * 5 + 2]? = some (.int .i64 (f i).2.2.1) ∧ (markCells f n)[i * 5 + 3]? = some (.int .i64 (f i).2.2.2.1) ∧ (markCells f n)[i * 5 + 4]? = some (.int .i64 (f i).2.2.2.2)
  | 0, i, h => absurd h (Nat.not_lt_zero i)
  | n + 1, i, h => by
    have hl := markCells_len f n
    unfold markCells
    by_cases hi : i < n
    · obtain ⟨a, b, c, d, e⟩ := markCells_at f hi
      refine ⟨?_, ?_, ?_, ?_, ?_⟩ <;> (rw [List.getElem?_append_left (by omega)]; assumption)
    · obtain rfl : i = n := by omega
      refine ⟨?_, ?_, ?_, ?_, ?_⟩ <;> (rw [List.getElem?_append_right (by omega), hl])
      · rw [show i * 5 - i * 5 = 0 by omega]; rfl
      · rw [show i * 5 + 1 - i * 5 = 1 by omega]; rfl
      · rw [show i * 5 + 2 - i * 5 = 2 by omega]; rfl
      · rw [show i * 5 + 3 - i * 5 = 3 by omega]; rfl
      · rw [show i * 5 + 4 - i * 5 = 4 by omega]; rfl
def Mach.mark (m : Mach) (i : Nat) : Int × Int × Int × Int × Int := (m.RB i, m.RX i - m.RE i, m.RX i + m.RE i, m.RY i - m.RE i, m.RY i + m.RE i)
end Go.Proofs.YtppefjmllebacaaGreatDoor
namespace Go.Proofs.YtppefjmllebacaaGreatDoor
open Go.RowKit
/-- the first cells of a studied machine are the machine's. -/
structure SCells (cs : Array Value) (m : Mach) : Prop where
  size : cs.size = 62
  k0 : cs[0]? = some (.slice m.sa m.sn m.sc)
  k1 : cs[1]? = some (.int .i64 m.c0)
  k2 : cs[2]? = some (.int .i64 m.c1)
  k3 : cs[3]? = some (.int .i64 m.d0)
  k4 : cs[4]? = some (.int .i64 m.d1)
  k5 : cs[5]? = some (.int .i64 m.w0)
  k6 : cs[6]? = some (.int .i64 m.w1)
  k7 : cs[7]? = some (.int .i64 m.v0)
  k8 : cs[8]? = some (.int .i64 m.v1)
  k9 : cs[9]? = some (.slice m.ra m.rn m.rc)
/-- clues in memory: a blank and two ends each. -/
def clueCells (f : Nat → Int × Int × Int) : Nat → List Value
  | 0 => []
  | k+1 => clueCells f k ++ [.int .i64 (f k).1, .int .i64 (f k).2.1, .int .i64 (f k).2.2]
theorem Tryz.info136 : (Tryz.prog.info? 136).map (fun i => (i.zero, i.size, i.bytes)) = some (some (.agg #[.int .i64 0, .int .i64 0, .int .i64 0]), 3, 24) := by kernel_rfl
theorem around_small {x e : Int} (hx : inB x (-80) 80 = true) (he : inB e 0 4 = true) : -1000 ≤ x ∧ x ≤ 1000 ∧ 0 ≤ e ∧ e ≤ 1000 := by
  have a := inB_iff.1 hx
  have b := inB_iff.1 he
  omega
/-- clues in memory. -/
def CPts (w : World) (b off n : Nat) (cl : Nat → Int × Int × Int) : Prop := ∀ i, i < n → w.cell? ⟨b, off + i * 3, none⟩ = some (.int .i64 (cl i).1) ∧ w.cell? ⟨b, off + i * 3 + 1, none⟩ = some (.int .i64 (cl i).2.1) ∧ w.cell? ⟨b, off + i * 3 + 2, none⟩ = some (.int .i64 (cl i).2.2)
def CSl (w : World) (v : Value) (n : Nat) (cl : Nat → Int × Int × Int) : Prop := (v = .slice none 0 0 ∧ n = 0) ∨ ∃ b off cap, v = .slice (some ⟨b, off, none⟩) n cap ∧ b < w.heap.size ∧ CPts w b off n cl
theorem CPts.below {w w' : World} {b off n : Nat} {cl : Nat → Int × Int × Int} (h : CPts w b off n cl) (hb : Below w.heap.size w w') (hl : b < w.heap.size) : CPts w' b off n cl := fun i hi => by
  obtain ⟨h1, h2, h3⟩ := h i hi
  exact ⟨(hb.cell (p := ⟨b, off + i * 3, none⟩) hl).trans h1, (hb.cell (p := ⟨b, off + i * 3 + 1, none⟩) hl).trans h2, (hb.cell (p := ⟨b, off + i * 3 + 2, none⟩) hl).trans h3⟩
theorem CSl.below {w w' : World} {v : Value} {n : Nat} {cl : Nat → Int × Int × Int} (h : CSl w v n cl) (hb : Below w.heap.size w w') : CSl w' v n cl := by
  rcases h with h | ⟨b, off, cap, h1, h2, h3⟩
  · exact .inl h
  · exact .inr ⟨b, off, cap, h1, Nat.lt_of_lt_of_le h2 hb.size, h3.below hb h2⟩
theorem clueCells_length (f : Nat → Int × Int × Int) : ∀ n, (clueCells f n).length = 3 * n
  | 0 => rfl
  | n+1 => by unfold clueCells; rw [List.length_append, clueCells_length f n]; simp; omega
theorem clueCells_at (f : Nat → Int × Int × Int) : ∀ n i, i < n → (clueCells f n)[i * 3]? = some (.int .i64 (f i).1) ∧ (clueCells f n)[i * 3 + 1]? = some (.int .i64 (f i).2.1) ∧ (clueCells f n)[i * 3 + 2]? = some (.int .i64 (f i).2.2)
  | 0, i, h => absurd h (Nat.not_lt_zero i)
  | n+1, i, h => by
    have hl := clueCells_length f n
    unfold clueCells
    by_cases hi : i = n
    · subst hi
      refine ⟨?_, ?_, ?_⟩
      · rw [List.getElem?_append_right (by omega), show i * 3 - (clueCells f i).length = 0 by omega]; rfl
      · rw [List.getElem?_append_right (by omega), show i * 3 + 1 - (clueCells f i).length = 1 by omega]; rfl
      · rw [List.getElem?_append_right (by omega), show i * 3 + 2 - (clueCells f i).length = 2 by omega]; rfl
    · obtain ⟨h1, h2, h3⟩ := clueCells_at f n i (by omega)
      refine ⟨?_, ?_, ?_⟩
      · rw [List.getElem?_append_left (by omega)]; exact h1
      · rw [List.getElem?_append_left (by omega)]; exact h2
      · rw [List.getElem?_append_left (by omega)]; exact h3
theorem csl_of_row {w : World} {B : Nat} {e : TypeId} {v : Value} {n : Nat} {f : Nat → Int × Int × Int} (h : w.ownsRow B e 3 v n (clueCells f n)) : CSl w v n f := by
  rcases ownsRow_lt h with h | ⟨g, cap, h1, h2, h3⟩
  · exact .inl h
  · refine .inr ⟨g, 0, cap, h1, h2, fun i hi => ?_⟩
    obtain ⟨k1, k2, k3⟩ := clueCells_at f n i hi
    rw [Nat.zero_add]
    exact ⟨h3 _ _ k1, h3 _ _ k2, h3 _ _ k3⟩
/-- an axis in the making: its cells. -/
structure AAt (W : World) (A : Nat) (c0 c1 w0 w1 : Int) (v : Value) : Prop where
  k0 : W.cell? ⟨A, 0, none⟩ = some (.int .i64 c0)
  k1 : W.cell? ⟨A, 1, none⟩ = some (.int .i64 c1)
  k2 : W.cell? ⟨A, 2, none⟩ = some (.int .i64 w0)
  k3 : W.cell? ⟨A, 3, none⟩ = some (.int .i64 w1)
  k4 : W.cell? ⟨A, 4, none⟩ = some v
  f0 : W.frozen? ⟨A, 0, none⟩ = false
  f1 : W.frozen? ⟨A, 1, none⟩ = false
  f2 : W.frozen? ⟨A, 2, none⟩ = false
  f3 : W.frozen? ⟨A, 3, none⟩ = false
  f4 : W.frozen? ⟨A, 4, none⟩ = false
theorem AAt.new (w : World) (e : TypeId) (c0 c1 w0 w1 : Int) (v : Value) : AAt (w.alloc (Obj.cells #[.int .i64 c0, .int .i64 c1, .int .i64 w0, .int .i64 w1, v] e)) w.heap.size c0 c1 w0 w1 v :=
  ⟨cells_new w _ _ rfl, cells_new w _ _ rfl, cells_new w _ _ rfl, cells_new w _ _ rfl, cells_new w _ _ rfl, by simp [go_sem], by simp [go_sem], by simp [go_sem], by simp [go_sem], by simp [go_sem]⟩
theorem AAt.below {W W' : World} {A : Nat} {c0 c1 w0 w1 : Int} {v : Value} {B : Nat} (h : AAt W A c0 c1 w0 w1 v) (hb : Below B W W') (hl : A < B) : AAt W' A c0 c1 w0 w1 v :=
  ⟨(hb.cell (p := ⟨A, 0, none⟩) hl).trans h.k0, (hb.cell (p := ⟨A, 1, none⟩) hl).trans h.k1, (hb.cell (p := ⟨A, 2, none⟩) hl).trans h.k2, (hb.cell (p := ⟨A, 3, none⟩) hl).trans h.k3, (hb.cell (p := ⟨A, 4, none⟩) hl).trans h.k4,
   (hb.frozen (p := ⟨A, 0, none⟩) hl).trans h.f0, (hb.frozen (p := ⟨A, 1, none⟩) hl).trans h.f1, (hb.frozen (p := ⟨A, 2, none⟩) hl).trans h.f2, (hb.frozen (p := ⟨A, 3, none⟩) hl).trans h.f3, (hb.frozen (p := ⟨A, 4, none⟩) hl).trans h.f4⟩
theorem AAt.far {W W' : World} {A : Nat} {c0 c1 w0 w1 : Int} {v : Value} (h : AAt W A c0 c1 w0 w1 v) (hh : W'.heap[A]? = W.heap[A]?) : AAt W' A c0 c1 w0 w1 v := by
  have c : ∀ j, W'.cell? ⟨A, j, none⟩ = W.cell? ⟨A, j, none⟩ := fun j => World.cell?_of_block hh
  have f : ∀ j, W'.frozen? ⟨A, j, none⟩ = W.frozen? ⟨A, j, none⟩ := fun j => by unfold World.frozen?; rw [hh]
  exact ⟨(c _).trans h.k0, (c _).trans h.k1, (c _).trans h.k2, (c _).trans h.k3, (c _).trans h.k4, (f _).trans h.f0, (f _).trans h.f1, (f _).trans h.f2, (f _).trans h.f3, (f _).trans h.f4⟩
theorem AAt.set4 {W : World} {A : Nat} {c0 c1 w0 w1 : Int} {v : Value} (h : AAt W A c0 c1 w0 w1 v) (u : Value) : AAt (W.setCell ⟨A, 4, none⟩ u) A c0 c1 w0 w1 u := by
  refine ⟨?_, ?_, ?_, ?_, ?_, ?_, ?_, ?_, ?_, ?_⟩
  · rw [World.cell?_setCell_other W u (a := ⟨A, 4, none⟩) (b := ⟨A, 0, none⟩) (by intro h; cases h)]; exact h.k0
  · rw [World.cell?_setCell_other W u (a := ⟨A, 4, none⟩) (b := ⟨A, 1, none⟩) (by intro h; cases h)]; exact h.k1
  · rw [World.cell?_setCell_other W u (a := ⟨A, 4, none⟩) (b := ⟨A, 2, none⟩) (by intro h; cases h)]; exact h.k2
  · rw [World.cell?_setCell_other W u (a := ⟨A, 4, none⟩) (b := ⟨A, 3, none⟩) (by intro h; cases h)]; exact h.k3
  · exact World.cell?_setCell_same' _ _ _ (by rw [h.k4]; rfl)
  all_goals rw [World.frozen?_setCell]
  · exact h.f0
  · exact h.f1
  · exact h.f2
  · exact h.f3
  · exact h.f4
theorem AAt.grown {W W' : World} {A : Nat} {c0 c1 w0 w1 : Int} {v : Value} {row : Option Nat} (h : AAt W A c0 c1 w0 w1 v) (hg : W.grownBy W' row) (hl : A < W.heap.size) (hne : some A ≠ row) : AAt W' A c0 c1 w0 w1 v :=
  ⟨(hg.cell_far ⟨A, 0, none⟩ hl hne).trans h.k0, (hg.cell_far ⟨A, 1, none⟩ hl hne).trans h.k1, (hg.cell_far ⟨A, 2, none⟩ hl hne).trans h.k2, (hg.cell_far ⟨A, 3, none⟩ hl hne).trans h.k3, (hg.cell_far ⟨A, 4, none⟩ hl hne).trans h.k4,
   (hg.frozen_far ⟨A, 0, none⟩ hl hne).trans h.f0, (hg.frozen_far ⟨A, 1, none⟩ hl hne).trans h.f1, (hg.frozen_far ⟨A, 2, none⟩ hl hne).trans h.f2, (hg.frozen_far ⟨A, 3, none⟩ hl hne).trans h.f3, (hg.frozen_far ⟨A, 4, none⟩ hl hne).trans h.f4⟩
/-- what one append onto an axis's clues leaves. -/
theorem AAt.push {w wr w2 wA : World} {A R : Nat} {c0 c1 w0 w1 z0 z1 z2 z3 : Int} {v v' u : Value} {o1 o2 : Obj} {e : TypeId} {k k' B : Nat} {xs xs' : List Value} (hA : AAt wr A c0 c1 w0 w1 v) (hR : AAt wr R z0 z1 z2 z3 u) (hown : wr.ownsRow B e 3 v k xs) (hbl : Below w.heap.size w wr) (hbb : Below (wr.alloc o1).drew.heap.size (wr.alloc o1).drew w2)
    (hgrow : (w2.alloc o2).grownBy wA v.ownBlock) (hown1 : wA.ownsRow B e 3 v' k' xs') (hAB : A < B) (hRB : R < B) (hRA : R ≠ A) (hwA : w.heap.size ≤ A) (hB : B ≤ wr.heap.size) (hwB : w.heap.size ≤ B) :
    AAt (wA.setCell ⟨A, 4, none⟩ v') A c0 c1 w0 w1 v' ∧ AAt (wA.setCell ⟨A, 4, none⟩ v') R z0 z1 z2 z3 u ∧ (wA.setCell ⟨A, 4, none⟩ v').ownsRow B e 3 v' k' xs' ∧ Below w.heap.size w (wA.setCell ⟨A, 4, none⟩ v') ∧ B ≤ (wA.setCell ⟨A, 4, none⟩ v').heap.size := by
  have h1 : Below wr.heap.size wr (wr.alloc o1).drew := ((Below.refl _ _).alloc (Nat.le_refl _) _).drew
  have h2 : Below wr.heap.size wr w2 := h1.trans (hbb.mono h1.size)
  have h3 : Below wr.heap.size wr (w2.alloc o2) := h2.alloc h2.size _
  have hlt : ∀ j, v.ownBlock = some j → B ≤ j := fun j hj => (hown.lt j hj).1
  have hfar : ∀ j, j < B → some j ≠ v.ownBlock := fun j hj e => by have := hlt j e.symm; omega
  have hb4 : Below w.heap.size w wA := (hbl.trans (h3.mono hbl.size)).grown hgrow (Nat.le_trans hbl.size h3.size) fun j hj => Nat.le_trans hwB (hlt j hj)
  have hs3 := h3.size
  have hA' : AAt wA A c0 c1 w0 w1 v := (hA.below h3 (by omega)).grown hgrow (by omega) (hfar A hAB)
  have hR' : AAt wA R z0 z1 z2 z3 u := (hR.below h3 (by omega)).grown hgrow (by omega) (hfar R hRB)
  have hbs := hb4.setCell (p := ⟨A, 4, none⟩) hwA v'
  have hzz : B ≤ wA.heap.size := Nat.le_trans (Nat.le_trans hB hs3) hgrow.size
  refine ⟨hA'.set4 v', hR'.far (Below.heap_setCell wA _ v' R hRA), ownsRow_kept hown1 (KeptFrom.set (a := ⟨A, 4, none⟩) hAB v'), hbs, ?_⟩
  rw [World.size_setCell]; exact hzz
theorem KeptFrom.set5 {B b : Nat} (hb : b < B) (W : World) (x0 x1 x2 x3 x4 : Value) : KeptFrom B W (((((W.setCell ⟨b, 0, none⟩ x0).setCell ⟨b, 1, none⟩ x1).setCell ⟨b, 2, none⟩ x2).setCell ⟨b, 3, none⟩ x3).setCell ⟨b, 4, none⟩ x4) :=
  ((((KeptFrom.set (a := ⟨b, 0, none⟩) hb x0).trans (KeptFrom.set (a := ⟨b, 1, none⟩) hb x1)).trans (KeptFrom.set (a := ⟨b, 2, none⟩) hb x2)).trans (KeptFrom.set (a := ⟨b, 3, none⟩) hb x3)).trans (KeptFrom.set (a := ⟨b, 4, none⟩) hb x4)
theorem below_set5 {B b : Nat} {w W : World} (h : Below B w W) (hb : B ≤ b) (x0 x1 x2 x3 x4 : Value) : Below B w (((((W.setCell ⟨b, 0, none⟩ x0).setCell ⟨b, 1, none⟩ x1).setCell ⟨b, 2, none⟩ x2).setCell ⟨b, 3, none⟩ x3).setCell ⟨b, 4, none⟩ x4) :=
  ((((h.setCell (p := ⟨b, 0, none⟩) hb x0).setCell (p := ⟨b, 1, none⟩) hb x1).setCell (p := ⟨b, 2, none⟩) hb x2).setCell (p := ⟨b, 3, none⟩) hb x3).setCell (p := ⟨b, 4, none⟩) hb x4
set_option maxRecDepth 100000 in
set_option maxHeartbeats 4000000 in
theorem alongX_some (cs : Array Value) (m : Mach) (b off : Nat) (w : World) (hcs : SCells cs m) (ha : m.ra = some ⟨b, off, none⟩) (hb : b < w.heap.size) (hp : RPts w b off m.rn m.RB m.RX m.RY m.RE) (hr : m.rn ≤ 1000) (hok : ∀ i, i < m.rn → readB (m.RB i) (m.RX i) (m.RY i) (m.RE i) = true) :
    Calls Tryz.prog 106 #[.agg cs] w fun e w' => ∃ v, e = .returned (.agg #[.int .i64 m.c0, .int .i64 m.c1, .int .i64 m.w0, .int .i64 m.w1, v]) ∧ w'.ownsRow w.heap.size 136 3 v m.rn (clueCells (fun i => (m.RB i, m.RX i - m.RE i, m.RX i + m.RE i)) m.rn) ∧ Below w.heap.size w w' := by
  obtain ⟨i0, hi, hz0, hz1, hz2⟩ := info_parts Tryz.info136
  obtain ⟨sa, sn, sc, SX, SY, c0, c1, d0, d1, w0, w1, v0, v1, ra, rn, rc, RB, RX, RY, RE⟩ := m
  dsimp only at *
  subst ha
  obtain ⟨k62, k0, k1, k2, k3, k4, k5, k6, k7, k8, k9⟩ := hcs
  dsimp only at k0 k1 k2 k3 k4 k5 k6 k7 k8 k9
  clear k62
  go_enter Tryz.func106, Tryz.ntmps106
  go_wp2
  obtain ⟨W0, hW0⟩ : ∃ W0, ((w.alloc (Obj.cells cs 83)).alloc (Obj.cells #[.int .i64 0, .int .i64 0, .int .i64 0, .int .i64 0, .slice none 0 0] 133)).alloc (Obj.cells #[.int .i64 c0, .int .i64 c1, .int .i64 w0, .int .i64 w1, .slice none 0 0] 133) = W0 := ⟨_, rfl⟩
  have hsz : W0.heap.size = w.heap.size + 1 + 1 + 1 := by rw [← hW0, World.size_alloc, World.size_alloc, World.size_alloc]
  have hb0 : Below w.heap.size w W0 := by rw [← hW0]; exact (((Below.refl _ _).alloc (Nat.le_refl _) _).alloc (by rw [World.size_alloc]; omega) _).alloc (by rw [World.size_alloc, World.size_alloc]; omega) _
  have hA0 : AAt W0 (w.heap.size + 1 + 1) c0 c1 w0 w1 (.slice none 0 0) := by
    have h := AAt.new ((w.alloc (Obj.cells cs 83)).alloc (Obj.cells #[.int .i64 0, .int .i64 0, .int .i64 0, .int .i64 0, .slice none 0 0] 133)) 133 c0 c1 w0 w1 (.slice none 0 0)
    rw [World.size_alloc, World.size_alloc, hW0] at h; exact h
  have hR0 : AAt W0 (w.heap.size + 1) 0 0 0 0 (.slice none 0 0) := by
    have h := (AAt.new (w.alloc (Obj.cells cs 83)) 133 0 0 0 0 (.slice none 0 0)).below ((Below.refl _ _).alloc (Nat.le_refl _) (Obj.cells #[.int .i64 c0, .int .i64 c1, .int .i64 w0, .int .i64 w1, .slice none 0 0] 133)) (by simp only [World.size_alloc]; omega)
    rw [World.size_alloc, hW0] at h; exact h
  rw [hW0]
  clear hW0
  go_loopw [17] (fun i wr => ∃ (k : Nat) (v : Value), k ≤ rn ∧ i = .int .i64 k ∧ AAt wr (w.heap.size + 1 + 1) c0 c1 w0 w1 v ∧ AAt wr (w.heap.size + 1) 0 0 0 0 (.slice none 0 0) ∧ wr.ownsRow (w.heap.size + 1 + 1 + 1) 136 3 v k (clueCells (fun i => (RB i, RX i - RE i, RX i + RE i)) k) ∧ Below w.heap.size w wr ∧ w.heap.size + 1 + 1 + 1 ≤ wr.heap.size) (fun i _ => rn - (intOf i).toNat)
  case atStart => exact ⟨0, _, Nat.zero_le _, rfl, hA0, hR0, ⟨rfl, .inl ⟨rfl, rfl⟩⟩, hb0, by omega⟩
  case round =>
    obtain ⟨k, v, hk, rfl, hA, hR, hown, hbl, hsw⟩ := hrel
    obtain ⟨va, vc, rfl⟩ := ownsRow_slice hown
    by_cases hlt : k < rn
    · obtain ⟨e1, e2, e3, e4⟩ := hp.below hbl hb k hlt
      have hk0 : (0 : Int) ≤ (k : Int) := Int.natCast_nonneg _
      have hk1 : (k : Int) < (rn : Int) := by omega
      have hrd := hok k hlt
      unfold readB at hrd
      rw [Bool.and_eq_true, Bool.and_eq_true] at hrd
      obtain ⟨a1, a2, a3⟩ := hrd
      unfold ptB at a2
      rw [Bool.and_eq_true] at a2
      have a21 := inB_iff.1 a2.1
      have a22 := inB_iff.1 a2.2
      have a4 := inB_iff.1 a3
      have ak : (Value.slice va k vc).ownBlock ≠ some (w.heap.size + 1 + 1) := fun e => by have := (hown.lt _ e).1; omega
      have hA' := hA
      have hR' := hR
      obtain ⟨q0, q1, q2, q3, q4, q5, q6, q7, q8, q9⟩ := hA'
      have hwr : w.heap.size + 1 + 1 ≠ wr.heap.size := by omega
      have ak2 : (Value.slice va k vc).ownBlock ≠ some wr.heap.size := fun e => by have := (hown.lt _ e).2; omega
      have qa4 : (wr.alloc (Obj.cells #[.int .i64 (RB k), .int .i64 (RX k), .int .i64 (RY k), .int .i64 (RE k)] 90)).drew.cell? ⟨w.heap.size + 1 + 1, 4, none⟩ = some (.slice va k vc) := (((Below.refl _ wr).alloc (Nat.le_refl _) _).cell (p := ⟨w.heap.size + 1 + 1, 4, none⟩) (by show w.heap.size + 1 + 1 < _; omega)).trans q4
      have qa9 : (wr.alloc (Obj.cells #[.int .i64 (RB k), .int .i64 (RX k), .int .i64 (RY k), .int .i64 (RE k)] 90)).drew.frozen? ⟨w.heap.size + 1 + 1, 4, none⟩ = false := (((Below.refl _ wr).alloc (Nat.le_refl _) _).frozen (p := ⟨w.heap.size + 1 + 1, 4, none⟩) (by show w.heap.size + 1 + 1 < _; omega)).trans q9
      go_wp2_with fail
      refine wp_region_late [13] (fun w9 => w9.cell? ⟨wr.heap.size, 0, none⟩ = some (.int .i64 (RB k)) ∧ w9.cell? ⟨wr.heap.size, 1, none⟩ = some (.int .i64 (RX k)) ∧ w9.cell? ⟨wr.heap.size, 3, none⟩ = some (.int .i64 (RE k))) (fun w9 => w9.cell? ⟨w.heap.size + 1 + 1, 4, none⟩ = some (.slice va k vc)) (by kernel_rfl) ?_ (fun hHeld => ?_)
      · (((try dsimp only); refine ⟨⟨?_, ?_, ?_⟩, ?_⟩ <;> first | exact qa4 | (simp only [World.cell?_drew]; exact cells_new wr _ _ rfl)))
      refine wpAnyP_take0 (i := 0) (v := ?_) rfl (by kernel_rfl) (by kernel_rfl) (by kernel_rfl) (by kernel_rfl) (by rfl) (fun _ _ _ h => h) (Or.inl ⟨by rfl, ?_⟩) hHeld ?_
      rotate_left 1
      · ((intro w9 hSw; (try dsimp only at hSw); go_simp) <;> with_reducible rfl)
      (try simp only [Act.put, List.setIfInBounds_toArray, List.set_cons_zero, List.set_cons_succ])
      refine wpAnyP_take 8 (i := 1) (v := ?_) rfl (by kernel_rfl) (by kernel_rfl) (by kernel_rfl) (by kernel_rfl) (by rfl) (by kernel_rfl) (fun _ _ _ h => h) (Or.inl ⟨by rfl, ?_⟩) hHeld ?_
      rotate_left 1
      · ((intro w9 hSw; (try dsimp only at hSw); go_simp) <;> with_reducible rfl)
      (try simp only [Act.put, List.setIfInBounds_toArray, List.set_cons_zero, List.set_cons_succ])
      refine wpAnyP_take0 (i := 2) (v := ?_) rfl (by kernel_rfl) (by kernel_rfl) (by kernel_rfl) (by kernel_rfl) (by rfl) (fun _ _ _ h => h) (Or.inl ⟨by rfl, ?_⟩) hHeld ?_
      rotate_left 1
      · ((intro w9 hSw; (try dsimp only at hSw); go_simp) <;> with_reducible rfl)
      (try simp only [Act.put, List.setIfInBounds_toArray, List.set_cons_zero, List.set_cons_succ])
      refine wpAnyP_take0 (i := 3) (v := ?_) rfl (by kernel_rfl) (by kernel_rfl) (by kernel_rfl) (by kernel_rfl) (by rfl) (fun _ _ _ h => h) (Or.inl ⟨by rfl, ?_⟩) hHeld ?_
      rotate_left 1
      · ((intro w9 hSw; (try dsimp only at hSw); go_simp) <;> with_reducible rfl)
      (try simp only [Act.put, List.setIfInBounds_toArray, List.set_cons_zero, List.set_cons_succ])
      refine wpAnyP_take0 (i := 4) (v := ?_) rfl (by kernel_rfl) (by kernel_rfl) (by kernel_rfl) (by kernel_rfl) (by rfl) (fun _ _ _ h => h) (Or.inl ⟨by rfl, ?_⟩) hHeld ?_
      rotate_left 1
      · ((intro w9 hSw; (try dsimp only at hSw); go_simp) <;> with_reducible rfl)
      (try simp only [Act.put, List.setIfInBounds_toArray, List.set_cons_zero, List.set_cons_succ])
      refine wpAnyP_take0 (i := 5) (v := ?_) rfl (by kernel_rfl) (by kernel_rfl) (by kernel_rfl) (by kernel_rfl) (by rfl) (fun _ _ _ h => h) (Or.inl ⟨by rfl, ?_⟩) hHeld ?_
      rotate_left 1
      · ((intro w9 hSw; (try dsimp only at hSw); go_simp) <;> with_reducible rfl)
      (try simp only [Act.put, List.setIfInBounds_toArray, List.set_cons_zero, List.set_cons_succ])
      refine wpAnyP_take0 (i := 6) (v := ?_) rfl (by kernel_rfl) (by kernel_rfl) (by kernel_rfl) (by kernel_rfl) (by rfl) (fun _ _ _ h => h) (Or.inl ⟨by rfl, ?_⟩) hHeld ?_
      rotate_left 1
      · ((intro w9 hSw; (try dsimp only at hSw); go_simp) <;> with_reducible rfl)
      (try simp only [Act.put, List.setIfInBounds_toArray, List.set_cons_zero, List.set_cons_succ])
      refine wpAnyP_take0 (i := 7) (v := ?_) rfl (by kernel_rfl) (by kernel_rfl) (by kernel_rfl) (by kernel_rfl) (by rfl) (fun _ _ _ h => h) (Or.inl ⟨by rfl, ?_⟩) hHeld ?_
      rotate_left 1
      · ((intro w9 hSw; (try dsimp only at hSw); go_simp) <;> with_reducible rfl)
      (try simp only [Act.put, List.setIfInBounds_toArray, List.set_cons_zero, List.set_cons_succ])
      refine wpAnyP_ready (rs := [8]) (by kernel_rfl) (by simp) ?_
      refine AllReadyP.cons (o := _) rfl (fun K hK => ?_) AllReadyP.nil
      · go_simp
        (go_at_call 68; refine (around_any _ _ (by omega) (by omega) (by omega) (by omega) _).mono ?_; rintro e w2 ⟨rfl, hbb⟩; have hs := hbb.size; (try simp only [World.size_alloc, World.size_drew] at hs); have q4' := hbb.cell (p := ⟨w.heap.size + 1 + 1, 4, none⟩) (by simp; omega) |>.trans qa4; have q9' := hbb.frozen (p := ⟨w.heap.size + 1 + 1, 4, none⟩) (by simp; omega) |>.trans qa9; have q4b := fun o => (((Below.refl w2.heap.size w2).alloc (Nat.le_refl _) o).cell (p := ⟨w.heap.size + 1 + 1, 4, none⟩) (by show w.heap.size + 1 + 1 < w2.heap.size; omega)).trans q4')
        refine hK.out _ _ ?_ (fun hHeld => ?_)
        · ((obtain ⟨⟨hc1, hc2, hc3⟩, hc4⟩ := hHeld; exact ⟨⟨(hbb.cell (p := ⟨wr.heap.size, 0, none⟩) (by simp)).trans hc1, (hbb.cell (p := ⟨wr.heap.size, 1, none⟩) (by simp)).trans hc2, (hbb.cell (p := ⟨wr.heap.size, 3, none⟩) (by simp)).trans hc3⟩, q4'⟩))
        clear hK K
        (try simp only [Act.put, List.setIfInBounds_toArray, List.set_cons_zero, List.set_cons_succ])
        refine wpAnyP_take0 (i := 9) (v := ?_) rfl (by kernel_rfl) (by kernel_rfl) (by kernel_rfl) (by kernel_rfl) (by rfl) (fun _ _ _ h => h) (Or.inl ⟨by rfl, ?_⟩) hHeld ?_
        rotate_left 1
        · ((intro w9 hSw; (try dsimp only at hSw); go_simp) <;> with_reducible rfl)
        (try simp only [Act.put, List.setIfInBounds_toArray, List.set_cons_zero, List.set_cons_succ])
        refine wpAnyP_ready (rs := [10]) (by kernel_rfl) (by simp) ?_
        refine AllReadyP.cons (o := _) rfl (fun K hK => ?_) AllReadyP.nil
        · go_simp
          refine hK.out _ _ ?_ (fun hHeld => ?_)
          · ((obtain ⟨⟨hc1, hc2, hc3⟩, hc4⟩ := hHeld; exact ⟨⟨(((Below.refl w2.heap.size w2).alloc (Nat.le_refl _) _).cell (p := ⟨wr.heap.size, 0, none⟩) (by show wr.heap.size < _; omega)).trans hc1, (((Below.refl w2.heap.size w2).alloc (Nat.le_refl _) _).cell (p := ⟨wr.heap.size, 1, none⟩) (by show wr.heap.size < _; omega)).trans hc2, (((Below.refl w2.heap.size w2).alloc (Nat.le_refl _) _).cell (p := ⟨wr.heap.size, 3, none⟩) (by show wr.heap.size < _; omega)).trans hc3⟩, q4b _⟩))
          clear hK K
          (try simp only [Act.put, List.setIfInBounds_toArray, List.set_cons_zero, List.set_cons_succ])
          refine wpAnyP_ready (rs := [11]) (by kernel_rfl) (by simp) ?_
          refine AllReadyP.cons (o := _) rfl (fun K hK => ?_) AllReadyP.nil
          · (refine step_append_lies _ (by rfl) _ _ _ (by rfl) (w.heap.size + 1 + 1 + 1) 136 i0 _ 3 24 Tryz.underlying131 hi hz0 hz1 hz2 rfl (by omega) (.slice va k vc) k (clueCells (fun i => (RB i, RX i - RE i, RX i + RE i)) k) (by rfl) ((ownsRow_below ((hown.alloc _).drew) hbb).alloc _) ⟨w2.heap.size, 0, none⟩ 1 1 [.int .i64 (RB k), .int .i64 (RX k - RE k), .int .i64 (RX k + RE k)] (by rfl) (by rfl) (World.news_of_block (cs := #[.int .i64 (RB k), .int .i64 (RX k - RE k), .int .i64 (RX k + RE k)]) (t := 136) (fr := (0, 0)) (heap_alloc_new w2 _)) (by simp [Value.oneCell']) (by omega) (by unfold maxLen; omega) (by omega) (by simp; omega) (w2.heap.size + 1) (by simp) ?_; intro gg cap wA hown1 hgrow hat hltt; have q4'' := (hgrow.cell_far ⟨w.heap.size + 1 + 1, 4, none⟩ (by simp; omega) (Ne.symm ak)).trans ((((Below.refl w2.heap.size w2).alloc (Nat.le_refl _) _).cell (p := ⟨w.heap.size + 1 + 1, 4, none⟩) (by show w.heap.size + 1 + 1 < w2.heap.size; omega)).trans q4'); have q9'' := (hgrow.frozen_far ⟨w.heap.size + 1 + 1, 4, none⟩ (by simp; omega) (Ne.symm ak)).trans ((((Below.refl w2.heap.size w2).alloc (Nat.le_refl _) _).frozen (p := ⟨w.heap.size + 1 + 1, 4, none⟩) (by show w.heap.size + 1 + 1 < w2.heap.size; omega)).trans q9'))
            refine hK.out _ _ ?_ (fun hHeld => ?_)
            · ((obtain ⟨⟨hc1, hc2, hc3⟩, hc4⟩ := hHeld; exact ⟨⟨(hgrow.cell_far ⟨wr.heap.size, 0, none⟩ (by simp; omega) (Ne.symm ak2)).trans hc1, (hgrow.cell_far ⟨wr.heap.size, 1, none⟩ (by simp; omega) (Ne.symm ak2)).trans hc2, (hgrow.cell_far ⟨wr.heap.size, 3, none⟩ (by simp; omega) (Ne.symm ak2)).trans hc3⟩, q4''⟩))
            clear hK K
            (try simp only [Act.put, List.setIfInBounds_toArray, List.set_cons_zero, List.set_cons_succ])
            refine wpAnyP_take0 (i := 12) (v := ?_) rfl (by kernel_rfl) (by kernel_rfl) (by kernel_rfl) (by kernel_rfl) (by rfl) (fun _ _ _ h => h) (Or.inl ⟨by rfl, ?_⟩) hHeld ?_
            rotate_left 1
            · ((intro w9 hSw; (try dsimp only at hSw); go_simp) <;> with_reducible rfl)
            (try simp only [Act.put, List.setIfInBounds_toArray, List.set_cons_zero, List.set_cons_succ])
            refine wpAnyP_ready (rs := [13]) (by kernel_rfl) (by simp) ?_
            refine AllReadyP.behind (o := _) rfl (by kernel_rfl) (fun K hK => ?_) AllReadyP.nil
            · go_simp
              refine hK.out _ _ ?_ (fun hHeld => ?_)
              · ((obtain ⟨hc1, hc2, hc3⟩ := hHeld.1; exact ⟨(World.cell?_setCell_far _ _ _ _ (by simp; omega)).trans hc1, (World.cell?_setCell_far _ _ _ _ (by simp; omega)).trans hc2, (World.cell?_setCell_far _ _ _ _ (by simp; omega)).trans hc3⟩))
              clear hK K
              (try simp only [Act.put, List.setIfInBounds_toArray, List.set_cons_zero, List.set_cons_succ])
              refine wpAnyP_done (by kernel_rfl) ?_ _
              (try simp only [Act.put, List.getElem_toArray, List.getElem_cons_zero, List.getElem_cons_succ, List.setIfInBounds_toArray, List.set_cons_zero, List.set_cons_succ])
              obtain ⟨p1, p2, p3, p4, p5⟩ := AAt.push (A := w.heap.size + 1 + 1) (R := w.heap.size + 1) hA hR hown hbl hbb hgrow hown1 (by omega) (by omega) (by omega) (by omega) hsw (by omega)
              clear hgrow hbb hA hR hown hown1 hbl q4' q9' q4b q4'' q9'' qa4 qa9
              go_wp2
              go_roundw
              case rel => exact ⟨k + 1, _, by omega, by go_num, p1, p2, p3, p4, p5⟩
              case measure => simp [intOf]; omega
    · obtain rfl : rn = k := by omega
      obtain ⟨q0, q1, q2, q3, q4, q5, q6, q7, q8, q9⟩ := hA
      obtain ⟨r0, r1, r2, r3, r4, r5, r6, r7, r8, r9⟩ := hR
      go_wp2
      refine bodyPost_ret (v := .agg #[.int .i64 c0, .int .i64 c1, .int .i64 w0, .int .i64 w1, .slice va rn vc]) (by simp [results, Tryz.results106, go_sem, r0, r1, r2, r3, r4]) rfl ⟨_, rfl, ownsRow_base (by omega) (ownsRow_kept hown (KeptFrom.set5 (by omega) _ _ _ _ _ _)), below_set5 hbl (by omega) _ _ _ _ _⟩
set_option maxRecDepth 100000 in
set_option maxHeartbeats 4000000 in
theorem alongX_nil (cs : Array Value) (m : Mach) (w : World) (hcs : SCells cs m) (h0 : m.rn = 0) :
    Calls Tryz.prog 106 #[.agg cs] w fun e w' => ∃ v, e = .returned (.agg #[.int .i64 m.c0, .int .i64 m.c1, .int .i64 m.w0, .int .i64 m.w1, v]) ∧ v = .slice none 0 0 ∧ Below w.heap.size w w' := by
  obtain ⟨sa, sn, sc, SX, SY, c0, c1, d0, d1, w0, w1, v0, v1, ra, rn, rc, RB, RX, RY, RE⟩ := m
  dsimp only at *
  subst h0
  obtain ⟨k62, k0, k1, k2, k3, k4, k5, k6, k7, k8, k9⟩ := hcs
  dsimp only at k0 k1 k2 k3 k4 k5 k6 k7 k8 k9
  clear k62
  go_enter Tryz.func106, Tryz.ntmps106
  go_wp2
  obtain ⟨W0, hW0⟩ : ∃ W0, ((w.alloc (Obj.cells cs 83)).alloc (Obj.cells #[.int .i64 0, .int .i64 0, .int .i64 0, .int .i64 0, .slice none 0 0] 133)).alloc (Obj.cells #[.int .i64 c0, .int .i64 c1, .int .i64 w0, .int .i64 w1, .slice none 0 0] 133) = W0 := ⟨_, rfl⟩
  have hsz : W0.heap.size = w.heap.size + 1 + 1 + 1 := by rw [← hW0, World.size_alloc, World.size_alloc, World.size_alloc]
  have hb0 : Below w.heap.size w W0 := by rw [← hW0]; exact (((Below.refl _ _).alloc (Nat.le_refl _) _).alloc (by rw [World.size_alloc]; omega) _).alloc (by rw [World.size_alloc, World.size_alloc]; omega) _
  have hA0 : AAt W0 (w.heap.size + 1 + 1) c0 c1 w0 w1 (.slice none 0 0) := by
    have h := AAt.new ((w.alloc (Obj.cells cs 83)).alloc (Obj.cells #[.int .i64 0, .int .i64 0, .int .i64 0, .int .i64 0, .slice none 0 0] 133)) 133 c0 c1 w0 w1 (.slice none 0 0)
    rw [World.size_alloc, World.size_alloc, hW0] at h; exact h
  have hR0 : AAt W0 (w.heap.size + 1) 0 0 0 0 (.slice none 0 0) := by
    have h := (AAt.new (w.alloc (Obj.cells cs 83)) 133 0 0 0 0 (.slice none 0 0)).below ((Below.refl _ _).alloc (Nat.le_refl _) (Obj.cells #[.int .i64 c0, .int .i64 c1, .int .i64 w0, .int .i64 w1, .slice none 0 0] 133)) (by simp only [World.size_alloc]; omega)
    rw [World.size_alloc, hW0] at h; exact h
  rw [hW0]
  clear hW0
  obtain ⟨r0, r1, r2, r3, r4, r5, r6, r7, r8, r9⟩ := hR0
  obtain ⟨q0, q1, q2, q3, q4, q5, q6, q7, q8, q9⟩ := hA0
  refine wp_loop_rounds 1 ?_
  rw [rounds_succ]
  go_wp2
  refine bodyPost_ret (v := .agg #[.int .i64 c0, .int .i64 c1, .int .i64 w0, .int .i64 w1, .slice none 0 0]) (by simp [results, Tryz.results106, go_sem, r0, r1, r2, r3, r4]) rfl ⟨_, rfl, rfl, below_set5 hb0 (by omega) _ _ _ _ _⟩
theorem alongX_any (cs : Array Value) (m : Mach) (w : World) (hcs : SCells cs m) (h : RSl w (.slice m.ra m.rn m.rc) m.rn m.RB m.RX m.RY m.RE) (hr : m.rn ≤ 1000) (hok : ∀ i, i < m.rn → readB (m.RB i) (m.RX i) (m.RY i) (m.RE i) = true) :
    Calls Tryz.prog 106 #[.agg cs] w fun e w' => ∃ v, e = .returned (.agg #[.int .i64 m.c0, .int .i64 m.c1, .int .i64 m.w0, .int .i64 m.w1, v]) ∧ w'.ownsRow w.heap.size 136 3 v m.rn (clueCells (fun i => (m.RB i, m.RX i - m.RE i, m.RX i + m.RE i)) m.rn) ∧ (m.rn = 0 → v = .slice none 0 0) ∧ Below w.heap.size w w' := by
  by_cases h0 : m.rn = 0
  · refine (alongX_nil cs m w hcs h0).mono ?_
    rintro e w' ⟨v, rfl, rfl, hb⟩
    exact ⟨_, rfl, by rw [h0]; exact ⟨rfl, .inl ⟨rfl, rfl⟩⟩, fun _ => rfl, hb⟩
  · rcases h with ⟨a, c, h1, h2⟩ | ⟨b, off, cap, h1, h2, h3⟩
    · exact absurd h2 h0
    · rw [Value.slice.injEq] at h1
      refine (alongX_some cs m b off w hcs h1.1 h2 h3 hr hok).mono ?_
      rintro e w' ⟨v, rfl, h4, hb⟩
      exact ⟨v, rfl, h4, fun h => absurd h h0, hb⟩
end Go.Proofs.YtppefjmllebacaaGreatDoor
namespace Go.Proofs.YtppefjmllebacaaGreatDoor
open Go.RowKit
set_option maxRecDepth 100000 in
set_option maxHeartbeats 4000000 in
theorem alongY_some (cs : Array Value) (m : Mach) (b off : Nat) (w : World) (hcs : SCells cs m) (ha : m.ra = some ⟨b, off, none⟩) (hb : b < w.heap.size) (hp : RPts w b off m.rn m.RB m.RX m.RY m.RE) (hr : m.rn ≤ 1000) (hok : ∀ i, i < m.rn → readB (m.RB i) (m.RX i) (m.RY i) (m.RE i) = true) :
    Calls Tryz.prog 107 #[.agg cs] w fun e w' => ∃ v, e = .returned (.agg #[.int .i64 m.d0, .int .i64 m.d1, .int .i64 m.v0, .int .i64 m.v1, v]) ∧ w'.ownsRow w.heap.size 136 3 v m.rn (clueCells (fun i => (m.RB i, m.RY i - m.RE i, m.RY i + m.RE i)) m.rn) ∧ Below w.heap.size w w' := by
  obtain ⟨i0, hi, hz0, hz1, hz2⟩ := info_parts Tryz.info136
  obtain ⟨sa, sn, sc, SX, SY, c0, c1, d0, d1, w0, w1, v0, v1, ra, rn, rc, RB, RX, RY, RE⟩ := m
  dsimp only at *
  subst ha
  obtain ⟨k62, k0, k1, k2, k3, k4, k5, k6, k7, k8, k9⟩ := hcs
  dsimp only at k0 k1 k2 k3 k4 k5 k6 k7 k8 k9
  clear k62
  go_enter Tryz.func107, Tryz.ntmps107
  go_wp2
  obtain ⟨W0, hW0⟩ : ∃ W0, ((w.alloc (Obj.cells cs 83)).alloc (Obj.cells #[.int .i64 0, .int .i64 0, .int .i64 0, .int .i64 0, .slice none 0 0] 133)).alloc (Obj.cells #[.int .i64 d0, .int .i64 d1, .int .i64 v0, .int .i64 v1, .slice none 0 0] 133) = W0 := ⟨_, rfl⟩
  have hsz : W0.heap.size = w.heap.size + 1 + 1 + 1 := by rw [← hW0, World.size_alloc, World.size_alloc, World.size_alloc]
  have hb0 : Below w.heap.size w W0 := by rw [← hW0]; exact (((Below.refl _ _).alloc (Nat.le_refl _) _).alloc (by rw [World.size_alloc]; omega) _).alloc (by rw [World.size_alloc, World.size_alloc]; omega) _
  have hA0 : AAt W0 (w.heap.size + 1 + 1) d0 d1 v0 v1 (.slice none 0 0) := by
    have h := AAt.new ((w.alloc (Obj.cells cs 83)).alloc (Obj.cells #[.int .i64 0, .int .i64 0, .int .i64 0, .int .i64 0, .slice none 0 0] 133)) 133 d0 d1 v0 v1 (.slice none 0 0)
    rw [World.size_alloc, World.size_alloc, hW0] at h; exact h
  have hR0 : AAt W0 (w.heap.size + 1) 0 0 0 0 (.slice none 0 0) := by
    have h := (AAt.new (w.alloc (Obj.cells cs 83)) 133 0 0 0 0 (.slice none 0 0)).below ((Below.refl _ _).alloc (Nat.le_refl _) (Obj.cells #[.int .i64 d0, .int .i64 d1, .int .i64 v0, .int .i64 v1, .slice none 0 0] 133)) (by simp only [World.size_alloc]; omega)
    rw [World.size_alloc, hW0] at h; exact h
  rw [hW0]
  clear hW0
  go_loopw [17] (fun i wr => ∃ (k : Nat) (v : Value), k ≤ rn ∧ i = .int .i64 k ∧ AAt wr (w.heap.size + 1 + 1) d0 d1 v0 v1 v ∧ AAt wr (w.heap.size + 1) 0 0 0 0 (.slice none 0 0) ∧ wr.ownsRow (w.heap.size + 1 + 1 + 1) 136 3 v k (clueCells (fun i => (RB i, RY i - RE i, RY i + RE i)) k) ∧ Below w.heap.size w wr ∧ w.heap.size + 1 + 1 + 1 ≤ wr.heap.size) (fun i _ => rn - (intOf i).toNat)
  case atStart => exact ⟨0, _, Nat.zero_le _, rfl, hA0, hR0, ⟨rfl, .inl ⟨rfl, rfl⟩⟩, hb0, by omega⟩
  case round =>
    obtain ⟨k, v, hk, rfl, hA, hR, hown, hbl, hsw⟩ := hrel
    obtain ⟨va, vc, rfl⟩ := ownsRow_slice hown
    by_cases hlt : k < rn
    · obtain ⟨e1, e2, e3, e4⟩ := hp.below hbl hb k hlt
      have hk0 : (0 : Int) ≤ (k : Int) := Int.natCast_nonneg _
      have hk1 : (k : Int) < (rn : Int) := by omega
      have hrd := hok k hlt
      unfold readB at hrd
      rw [Bool.and_eq_true, Bool.and_eq_true] at hrd
      obtain ⟨a1, a2, a3⟩ := hrd
      unfold ptB at a2
      rw [Bool.and_eq_true] at a2
      have a21 := inB_iff.1 a2.1
      have a22 := inB_iff.1 a2.2
      have a4 := inB_iff.1 a3
      have ak : (Value.slice va k vc).ownBlock ≠ some (w.heap.size + 1 + 1) := fun e => by have := (hown.lt _ e).1; omega
      have hA' := hA
      have hR' := hR
      obtain ⟨q0, q1, q2, q3, q4, q5, q6, q7, q8, q9⟩ := hA'
      have hwr : w.heap.size + 1 + 1 ≠ wr.heap.size := by omega
      have ak2 : (Value.slice va k vc).ownBlock ≠ some wr.heap.size := fun e => by have := (hown.lt _ e).2; omega
      have qa4 : (wr.alloc (Obj.cells #[.int .i64 (RB k), .int .i64 (RX k), .int .i64 (RY k), .int .i64 (RE k)] 90)).drew.cell? ⟨w.heap.size + 1 + 1, 4, none⟩ = some (.slice va k vc) := (((Below.refl _ wr).alloc (Nat.le_refl _) _).cell (p := ⟨w.heap.size + 1 + 1, 4, none⟩) (by show w.heap.size + 1 + 1 < _; omega)).trans q4
      have qa9 : (wr.alloc (Obj.cells #[.int .i64 (RB k), .int .i64 (RX k), .int .i64 (RY k), .int .i64 (RE k)] 90)).drew.frozen? ⟨w.heap.size + 1 + 1, 4, none⟩ = false := (((Below.refl _ wr).alloc (Nat.le_refl _) _).frozen (p := ⟨w.heap.size + 1 + 1, 4, none⟩) (by show w.heap.size + 1 + 1 < _; omega)).trans q9
      go_wp2_with fail
      refine wp_region_late [13] (fun w9 => w9.cell? ⟨wr.heap.size, 0, none⟩ = some (.int .i64 (RB k)) ∧ w9.cell? ⟨wr.heap.size, 2, none⟩ = some (.int .i64 (RY k)) ∧ w9.cell? ⟨wr.heap.size, 3, none⟩ = some (.int .i64 (RE k))) (fun w9 => w9.cell? ⟨w.heap.size + 1 + 1, 4, none⟩ = some (.slice va k vc)) (by kernel_rfl) ?_ (fun hHeld => ?_)
      · (((try dsimp only); refine ⟨⟨?_, ?_, ?_⟩, ?_⟩ <;> first | exact qa4 | (simp only [World.cell?_drew]; exact cells_new wr _ _ rfl)))
      refine wpAnyP_take0 (i := 0) (v := ?_) rfl (by kernel_rfl) (by kernel_rfl) (by kernel_rfl) (by kernel_rfl) (by rfl) (fun _ _ _ h => h) (Or.inl ⟨by rfl, ?_⟩) hHeld ?_
      rotate_left 1
      · ((intro w9 hSw; (try dsimp only at hSw); go_simp) <;> with_reducible rfl)
      (try simp only [Act.put, List.setIfInBounds_toArray, List.set_cons_zero, List.set_cons_succ])
      refine wpAnyP_take 8 (i := 1) (v := ?_) rfl (by kernel_rfl) (by kernel_rfl) (by kernel_rfl) (by kernel_rfl) (by rfl) (by kernel_rfl) (fun _ _ _ h => h) (Or.inl ⟨by rfl, ?_⟩) hHeld ?_
      rotate_left 1
      · ((intro w9 hSw; (try dsimp only at hSw); go_simp) <;> with_reducible rfl)
      (try simp only [Act.put, List.setIfInBounds_toArray, List.set_cons_zero, List.set_cons_succ])
      refine wpAnyP_take0 (i := 2) (v := ?_) rfl (by kernel_rfl) (by kernel_rfl) (by kernel_rfl) (by kernel_rfl) (by rfl) (fun _ _ _ h => h) (Or.inl ⟨by rfl, ?_⟩) hHeld ?_
      rotate_left 1
      · ((intro w9 hSw; (try dsimp only at hSw); go_simp) <;> with_reducible rfl)
      (try simp only [Act.put, List.setIfInBounds_toArray, List.set_cons_zero, List.set_cons_succ])
      refine wpAnyP_take0 (i := 3) (v := ?_) rfl (by kernel_rfl) (by kernel_rfl) (by kernel_rfl) (by kernel_rfl) (by rfl) (fun _ _ _ h => h) (Or.inl ⟨by rfl, ?_⟩) hHeld ?_
      rotate_left 1
      · ((intro w9 hSw; (try dsimp only at hSw); go_simp) <;> with_reducible rfl)
      (try simp only [Act.put, List.setIfInBounds_toArray, List.set_cons_zero, List.set_cons_succ])
      refine wpAnyP_take0 (i := 4) (v := ?_) rfl (by kernel_rfl) (by kernel_rfl) (by kernel_rfl) (by kernel_rfl) (by rfl) (fun _ _ _ h => h) (Or.inl ⟨by rfl, ?_⟩) hHeld ?_
      rotate_left 1
      · ((intro w9 hSw; (try dsimp only at hSw); go_simp) <;> with_reducible rfl)
      (try simp only [Act.put, List.setIfInBounds_toArray, List.set_cons_zero, List.set_cons_succ])
      refine wpAnyP_take0 (i := 5) (v := ?_) rfl (by kernel_rfl) (by kernel_rfl) (by kernel_rfl) (by kernel_rfl) (by rfl) (fun _ _ _ h => h) (Or.inl ⟨by rfl, ?_⟩) hHeld ?_
      rotate_left 1
      · ((intro w9 hSw; (try dsimp only at hSw); go_simp) <;> with_reducible rfl)
      (try simp only [Act.put, List.setIfInBounds_toArray, List.set_cons_zero, List.set_cons_succ])
      refine wpAnyP_take0 (i := 6) (v := ?_) rfl (by kernel_rfl) (by kernel_rfl) (by kernel_rfl) (by kernel_rfl) (by rfl) (fun _ _ _ h => h) (Or.inl ⟨by rfl, ?_⟩) hHeld ?_
      rotate_left 1
      · ((intro w9 hSw; (try dsimp only at hSw); go_simp) <;> with_reducible rfl)
      (try simp only [Act.put, List.setIfInBounds_toArray, List.set_cons_zero, List.set_cons_succ])
      refine wpAnyP_take0 (i := 7) (v := ?_) rfl (by kernel_rfl) (by kernel_rfl) (by kernel_rfl) (by kernel_rfl) (by rfl) (fun _ _ _ h => h) (Or.inl ⟨by rfl, ?_⟩) hHeld ?_
      rotate_left 1
      · ((intro w9 hSw; (try dsimp only at hSw); go_simp) <;> with_reducible rfl)
      (try simp only [Act.put, List.setIfInBounds_toArray, List.set_cons_zero, List.set_cons_succ])
      refine wpAnyP_ready (rs := [8]) (by kernel_rfl) (by simp) ?_
      refine AllReadyP.cons (o := _) rfl (fun K hK => ?_) AllReadyP.nil
      · go_simp
        (go_at_call 68; refine (around_any _ _ (by omega) (by omega) (by omega) (by omega) _).mono ?_; rintro e w2 ⟨rfl, hbb⟩; have hs := hbb.size; (try simp only [World.size_alloc, World.size_drew] at hs); have q4' := hbb.cell (p := ⟨w.heap.size + 1 + 1, 4, none⟩) (by simp; omega) |>.trans qa4; have q9' := hbb.frozen (p := ⟨w.heap.size + 1 + 1, 4, none⟩) (by simp; omega) |>.trans qa9; have q4b := fun o => (((Below.refl w2.heap.size w2).alloc (Nat.le_refl _) o).cell (p := ⟨w.heap.size + 1 + 1, 4, none⟩) (by show w.heap.size + 1 + 1 < w2.heap.size; omega)).trans q4')
        refine hK.out _ _ ?_ (fun hHeld => ?_)
        · ((obtain ⟨⟨hc1, hc2, hc3⟩, hc4⟩ := hHeld; exact ⟨⟨(hbb.cell (p := ⟨wr.heap.size, 0, none⟩) (by simp)).trans hc1, (hbb.cell (p := ⟨wr.heap.size, 2, none⟩) (by simp)).trans hc2, (hbb.cell (p := ⟨wr.heap.size, 3, none⟩) (by simp)).trans hc3⟩, q4'⟩))
        clear hK K
        (try simp only [Act.put, List.setIfInBounds_toArray, List.set_cons_zero, List.set_cons_succ])
        refine wpAnyP_take0 (i := 9) (v := ?_) rfl (by kernel_rfl) (by kernel_rfl) (by kernel_rfl) (by kernel_rfl) (by rfl) (fun _ _ _ h => h) (Or.inl ⟨by rfl, ?_⟩) hHeld ?_
        rotate_left 1
        · ((intro w9 hSw; (try dsimp only at hSw); go_simp) <;> with_reducible rfl)
        (try simp only [Act.put, List.setIfInBounds_toArray, List.set_cons_zero, List.set_cons_succ])
        refine wpAnyP_ready (rs := [10]) (by kernel_rfl) (by simp) ?_
        refine AllReadyP.cons (o := _) rfl (fun K hK => ?_) AllReadyP.nil
        · go_simp
          refine hK.out _ _ ?_ (fun hHeld => ?_)
          · ((obtain ⟨⟨hc1, hc2, hc3⟩, hc4⟩ := hHeld; exact ⟨⟨(((Below.refl w2.heap.size w2).alloc (Nat.le_refl _) _).cell (p := ⟨wr.heap.size, 0, none⟩) (by show wr.heap.size < _; omega)).trans hc1, (((Below.refl w2.heap.size w2).alloc (Nat.le_refl _) _).cell (p := ⟨wr.heap.size, 2, none⟩) (by show wr.heap.size < _; omega)).trans hc2, (((Below.refl w2.heap.size w2).alloc (Nat.le_refl _) _).cell (p := ⟨wr.heap.size, 3, none⟩) (by show wr.heap.size < _; omega)).trans hc3⟩, q4b _⟩))
          clear hK K
          (try simp only [Act.put, List.setIfInBounds_toArray, List.set_cons_zero, List.set_cons_succ])
          refine wpAnyP_ready (rs := [11]) (by kernel_rfl) (by simp) ?_
          refine AllReadyP.cons (o := _) rfl (fun K hK => ?_) AllReadyP.nil
          · (refine step_append_lies _ (by rfl) _ _ _ (by rfl) (w.heap.size + 1 + 1 + 1) 136 i0 _ 3 24 Tryz.underlying131 hi hz0 hz1 hz2 rfl (by omega) (.slice va k vc) k (clueCells (fun i => (RB i, RY i - RE i, RY i + RE i)) k) (by rfl) ((ownsRow_below ((hown.alloc _).drew) hbb).alloc _) ⟨w2.heap.size, 0, none⟩ 1 1 [.int .i64 (RB k), .int .i64 (RY k - RE k), .int .i64 (RY k + RE k)] (by rfl) (by rfl) (World.news_of_block (cs := #[.int .i64 (RB k), .int .i64 (RY k - RE k), .int .i64 (RY k + RE k)]) (t := 136) (fr := (0, 0)) (heap_alloc_new w2 _)) (by simp [Value.oneCell']) (by omega) (by unfold maxLen; omega) (by omega) (by simp; omega) (w2.heap.size + 1) (by simp) ?_; intro gg cap wA hown1 hgrow hat hltt; have q4'' := (hgrow.cell_far ⟨w.heap.size + 1 + 1, 4, none⟩ (by simp; omega) (Ne.symm ak)).trans ((((Below.refl w2.heap.size w2).alloc (Nat.le_refl _) _).cell (p := ⟨w.heap.size + 1 + 1, 4, none⟩) (by show w.heap.size + 1 + 1 < w2.heap.size; omega)).trans q4'); have q9'' := (hgrow.frozen_far ⟨w.heap.size + 1 + 1, 4, none⟩ (by simp; omega) (Ne.symm ak)).trans ((((Below.refl w2.heap.size w2).alloc (Nat.le_refl _) _).frozen (p := ⟨w.heap.size + 1 + 1, 4, none⟩) (by show w.heap.size + 1 + 1 < w2.heap.size; omega)).trans q9'))
            refine hK.out _ _ ?_ (fun hHeld => ?_)
            · ((obtain ⟨⟨hc1, hc2, hc3⟩, hc4⟩ := hHeld; exact ⟨⟨(hgrow.cell_far ⟨wr.heap.size, 0, none⟩ (by simp; omega) (Ne.symm ak2)).trans hc1, (hgrow.cell_far ⟨wr.heap.size, 2, none⟩ (by simp; omega) (Ne.symm ak2)).trans hc2, (hgrow.cell_far ⟨wr.heap.size, 3, none⟩ (by simp; omega) (Ne.symm ak2)).trans hc3⟩, q4''⟩))
            clear hK K
            (try simp only [Act.put, List.setIfInBounds_toArray, List.set_cons_zero, List.set_cons_succ])
            refine wpAnyP_take0 (i := 12) (v := ?_) rfl (by kernel_rfl) (by kernel_rfl) (by kernel_rfl) (by kernel_rfl) (by rfl) (fun _ _ _ h => h) (Or.inl ⟨by rfl, ?_⟩) hHeld ?_
            rotate_left 1
            · ((intro w9 hSw; (try dsimp only at hSw); go_simp) <;> with_reducible rfl)
            (try simp only [Act.put, List.setIfInBounds_toArray, List.set_cons_zero, List.set_cons_succ])
            refine wpAnyP_ready (rs := [13]) (by kernel_rfl) (by simp) ?_
            refine AllReadyP.behind (o := _) rfl (by kernel_rfl) (fun K hK => ?_) AllReadyP.nil
            · go_simp
              refine hK.out _ _ ?_ (fun hHeld => ?_)
              · ((obtain ⟨hc1, hc2, hc3⟩ := hHeld.1; exact ⟨(World.cell?_setCell_far _ _ _ _ (by simp; omega)).trans hc1, (World.cell?_setCell_far _ _ _ _ (by simp; omega)).trans hc2, (World.cell?_setCell_far _ _ _ _ (by simp; omega)).trans hc3⟩))
              clear hK K
              (try simp only [Act.put, List.setIfInBounds_toArray, List.set_cons_zero, List.set_cons_succ])
              refine wpAnyP_done (by kernel_rfl) ?_ _
              (try simp only [Act.put, List.getElem_toArray, List.getElem_cons_zero, List.getElem_cons_succ, List.setIfInBounds_toArray, List.set_cons_zero, List.set_cons_succ])
              obtain ⟨p1, p2, p3, p4, p5⟩ := AAt.push (A := w.heap.size + 1 + 1) (R := w.heap.size + 1) hA hR hown hbl hbb hgrow hown1 (by omega) (by omega) (by omega) (by omega) hsw (by omega)
              clear hgrow hbb hA hR hown hown1 hbl q4' q9' q4b q4'' q9'' qa4 qa9
              go_wp2
              go_roundw
              case rel => exact ⟨k + 1, _, by omega, by go_num, p1, p2, p3, p4, p5⟩
              case measure => simp [intOf]; omega
    · obtain rfl : rn = k := by omega
      obtain ⟨q0, q1, q2, q3, q4, q5, q6, q7, q8, q9⟩ := hA
      obtain ⟨r0, r1, r2, r3, r4, r5, r6, r7, r8, r9⟩ := hR
      go_wp2
      refine bodyPost_ret (v := .agg #[.int .i64 d0, .int .i64 d1, .int .i64 v0, .int .i64 v1, .slice va rn vc]) (by simp [results, Tryz.results107, go_sem, r0, r1, r2, r3, r4]) rfl ⟨_, rfl, ownsRow_base (by omega) (ownsRow_kept hown (KeptFrom.set5 (by omega) _ _ _ _ _ _)), below_set5 hbl (by omega) _ _ _ _ _⟩
set_option maxRecDepth 100000 in
set_option maxHeartbeats 4000000 in
theorem alongY_nil (cs : Array Value) (m : Mach) (w : World) (hcs : SCells cs m) (h0 : m.rn = 0) :
    Calls Tryz.prog 107 #[.agg cs] w fun e w' => ∃ v, e = .returned (.agg #[.int .i64 m.d0, .int .i64 m.d1, .int .i64 m.v0, .int .i64 m.v1, v]) ∧ v = .slice none 0 0 ∧ Below w.heap.size w w' := by
  obtain ⟨sa, sn, sc, SX, SY, c0, c1, d0, d1, w0, w1, v0, v1, ra, rn, rc, RB, RX, RY, RE⟩ := m
  dsimp only at *
  subst h0
  obtain ⟨k62, k0, k1, k2, k3, k4, k5, k6, k7, k8, k9⟩ := hcs
  dsimp only at k0 k1 k2 k3 k4 k5 k6 k7 k8 k9
  clear k62
  go_enter Tryz.func107, Tryz.ntmps107
  go_wp2
  obtain ⟨W0, hW0⟩ : ∃ W0, ((w.alloc (Obj.cells cs 83)).alloc (Obj.cells #[.int .i64 0, .int .i64 0, .int .i64 0, .int .i64 0, .slice none 0 0] 133)).alloc (Obj.cells #[.int .i64 d0, .int .i64 d1, .int .i64 v0, .int .i64 v1, .slice none 0 0] 133) = W0 := ⟨_, rfl⟩
  have hsz : W0.heap.size = w.heap.size + 1 + 1 + 1 := by rw [← hW0, World.size_alloc, World.size_alloc, World.size_alloc]
  have hb0 : Below w.heap.size w W0 := by rw [← hW0]; exact (((Below.refl _ _).alloc (Nat.le_refl _) _).alloc (by rw [World.size_alloc]; omega) _).alloc (by rw [World.size_alloc, World.size_alloc]; omega) _
  have hA0 : AAt W0 (w.heap.size + 1 + 1) d0 d1 v0 v1 (.slice none 0 0) := by
    have h := AAt.new ((w.alloc (Obj.cells cs 83)).alloc (Obj.cells #[.int .i64 0, .int .i64 0, .int .i64 0, .int .i64 0, .slice none 0 0] 133)) 133 d0 d1 v0 v1 (.slice none 0 0)
    rw [World.size_alloc, World.size_alloc, hW0] at h; exact h
  have hR0 : AAt W0 (w.heap.size + 1) 0 0 0 0 (.slice none 0 0) := by
    have h := (AAt.new (w.alloc (Obj.cells cs 83)) 133 0 0 0 0 (.slice none 0 0)).below ((Below.refl _ _).alloc (Nat.le_refl _) (Obj.cells #[.int .i64 d0, .int .i64 d1, .int .i64 v0, .int .i64 v1, .slice none 0 0] 133)) (by simp only [World.size_alloc]; omega)
    rw [World.size_alloc, hW0] at h; exact h
  rw [hW0]
  clear hW0
  obtain ⟨r0, r1, r2, r3, r4, r5, r6, r7, r8, r9⟩ := hR0
  obtain ⟨q0, q1, q2, q3, q4, q5, q6, q7, q8, q9⟩ := hA0
  refine wp_loop_rounds 1 ?_
  rw [rounds_succ]
  go_wp2
  refine bodyPost_ret (v := .agg #[.int .i64 d0, .int .i64 d1, .int .i64 v0, .int .i64 v1, .slice none 0 0]) (by simp [results, Tryz.results107, go_sem, r0, r1, r2, r3, r4]) rfl ⟨_, rfl, rfl, below_set5 hb0 (by omega) _ _ _ _ _⟩
theorem alongY_any (cs : Array Value) (m : Mach) (w : World) (hcs : SCells cs m) (h : RSl w (.slice m.ra m.rn m.rc) m.rn m.RB m.RX m.RY m.RE) (hr : m.rn ≤ 1000) (hok : ∀ i, i < m.rn → readB (m.RB i) (m.RX i) (m.RY i) (m.RE i) = true) :
    Calls Tryz.prog 107 #[.agg cs] w fun e w' => ∃ v, e = .returned (.agg #[.int .i64 m.d0, .int .i64 m.d1, .int .i64 m.v0, .int .i64 m.v1, v]) ∧ w'.ownsRow w.heap.size 136 3 v m.rn (clueCells (fun i => (m.RB i, m.RY i - m.RE i, m.RY i + m.RE i)) m.rn) ∧ (m.rn = 0 → v = .slice none 0 0) ∧ Below w.heap.size w w' := by
  by_cases h0 : m.rn = 0
  · refine (alongY_nil cs m w hcs h0).mono ?_
    rintro e w' ⟨v, rfl, rfl, hb⟩
    exact ⟨_, rfl, by rw [h0]; exact ⟨rfl, .inl ⟨rfl, rfl⟩⟩, fun _ => rfl, hb⟩
  · rcases h with ⟨a, c, h1, h2⟩ | ⟨b, off, cap, h1, h2, h3⟩
    · exact absurd h2 h0
    · rw [Value.slice.injEq] at h1
      refine (alongY_some cs m b off w hcs h1.1 h2 h3 hr hok).mono ?_
      rintro e w' ⟨v, rfl, h4, hb⟩
      exact ⟨v, rfl, h4, fun h => absurd h h0, hb⟩
end Go.Proofs.YtppefjmllebacaaGreatDoor
namespace Go.Proofs.YtppefjmllebacaaGreatDoor
open Go.RowKit
/-- what lies in all of some spans. -/
def narF : List (Int × Int) → Int × Int
  | [] => (0, 0)
  | s :: l => l.foldl (fun a s => (max a.1 s.1, min a.2 s.2)) s
theorem narF_push (s : Int × Int) (l : List (Int × Int)) (t : Int × Int) : narF ((s :: l) ++ [t]) = (max (narF (s :: l)).1 t.1, min (narF (s :: l)).2 t.2) := by
  unfold narF
  rw [List.cons_append]
  dsimp only
  rw [List.foldl_append]; rfl
def Sps (w : World) (b off : Nat) (l : List (Int × Int)) : Prop := ∀ j p, l[j]? = some p → w.cell? ⟨b, off + j * 2, none⟩ = some (.int .i64 p.1) ∧ w.cell? ⟨b, off + j * 2 + 1, none⟩ = some (.int .i64 p.2)
theorem Sps.below {w w' : World} {b off : Nat} {l : List (Int × Int)} {B : Nat} (h : Sps w b off l) (hb : Below B w w') (hl : b < B) : Sps w' b off l := fun j p hj => by
  obtain ⟨h1, h2⟩ := h j p hj
  exact ⟨(hb.cell (p := ⟨b, off + j * 2, none⟩) hl).trans h1, (hb.cell (p := ⟨b, off + j * 2 + 1, none⟩) hl).trans h2⟩
/-- a span in memory. -/
structure Two (W : World) (A : Nat) (x y : Int) : Prop where
  k0 : W.cell? ⟨A, 0, none⟩ = some (.int .i64 x)
  k1 : W.cell? ⟨A, 1, none⟩ = some (.int .i64 y)
  f0 : W.frozen? ⟨A, 0, none⟩ = false
  f1 : W.frozen? ⟨A, 1, none⟩ = false
theorem Two.new (w : World) (e : TypeId) (x y : Int) : Two (w.alloc (Obj.cells #[.int .i64 x, .int .i64 y] e)) w.heap.size x y := ⟨cells_new w _ _ rfl, cells_new w _ _ rfl, by simp [go_sem], by simp [go_sem]⟩
theorem Two.below {W W' : World} {A B : Nat} {x y : Int} (h : Two W A x y) (hb : Below B W W') (hl : A < B) : Two W' A x y :=
  ⟨(hb.cell (p := ⟨A, 0, none⟩) hl).trans h.k0, (hb.cell (p := ⟨A, 1, none⟩) hl).trans h.k1, (hb.frozen (p := ⟨A, 0, none⟩) hl).trans h.f0, (hb.frozen (p := ⟨A, 1, none⟩) hl).trans h.f1⟩
theorem Two.far {W W' : World} {A : Nat} {x y : Int} (h : Two W A x y) (hh : W'.heap[A]? = W.heap[A]?) : Two W' A x y := by
  have c : ∀ j, W'.cell? ⟨A, j, none⟩ = W.cell? ⟨A, j, none⟩ := fun j => World.cell?_of_block hh
  have f : ∀ j, W'.frozen? ⟨A, j, none⟩ = W.frozen? ⟨A, j, none⟩ := fun j => by unfold World.frozen?; rw [hh]
  exact ⟨(c _).trans h.k0, (c _).trans h.k1, (f _).trans h.f0, (f _).trans h.f1⟩
theorem Two.set01 {W : World} {A : Nat} {x y : Int} (h : Two W A x y) (u v : Int) : Two ((W.setCell ⟨A, 0, none⟩ (.int .i64 u)).setCell ⟨A, 1, none⟩ (.int .i64 v)) A u v := by
  refine ⟨?_, ?_, ?_, ?_⟩
  · rw [World.cell?_setCell_other _ _ (a := ⟨A, 1, none⟩) (b := ⟨A, 0, none⟩) (by intro h; cases h)]; exact World.cell?_setCell_same' _ _ _ (by rw [h.k0]; rfl)
  · exact World.cell?_setCell_same' _ _ _ (by rw [World.cell?_setCell_other _ _ (a := ⟨A, 0, none⟩) (b := ⟨A, 1, none⟩) (by intro h; cases h), h.k1]; rfl)
  · rw [World.frozen?_setCell, World.frozen?_setCell]; exact h.f0
  · rw [World.frozen?_setCell, World.frozen?_setCell]; exact h.f1
theorem Two.set10 {W : World} {A : Nat} {x y : Int} (h : Two W A x y) (u v : Int) : Two ((W.setCell ⟨A, 1, none⟩ (.int .i64 v)).setCell ⟨A, 0, none⟩ (.int .i64 u)) A u v := by
  refine ⟨?_, ?_, ?_, ?_⟩
  · exact World.cell?_setCell_same' _ _ _ (by rw [World.cell?_setCell_other _ _ (a := ⟨A, 1, none⟩) (b := ⟨A, 0, none⟩) (by intro h; cases h), h.k0]; rfl)
  · rw [World.cell?_setCell_other _ _ (a := ⟨A, 0, none⟩) (b := ⟨A, 1, none⟩) (by intro h; cases h)]; exact World.cell?_setCell_same' _ _ _ (by rw [h.k1]; rfl)
  · rw [World.frozen?_setCell, World.frozen?_setCell]; exact h.f0
  · rw [World.frozen?_setCell, World.frozen?_setCell]; exact h.f1
theorem Two.drew {W : World} {A : Nat} {x y : Int} (h : Two W A x y) : Two W.drew A x y := ⟨h.k0, h.k1, h.f0, h.f1⟩
theorem two_max (x y : Int) : (if x < y then y else x) = max x y := by omega
theorem two_min (x y : Int) : (if y < x then y else x) = min x y := by omega
/-- one span of two in memory is set. -/
theorem Two.step {w W : World} {A R : Nat} {x y u v a b : Int} (hA : Two W A x y) (hR : Two W R a b) (hne : R ≠ A) (hb : Below w.heap.size w W) (hl : w.heap.size ≤ A) :
    Two ((W.setCell ⟨A, 0, none⟩ (.int .i64 u)).setCell ⟨A, 1, none⟩ (.int .i64 v)).drew A u v ∧ Two ((W.setCell ⟨A, 0, none⟩ (.int .i64 u)).setCell ⟨A, 1, none⟩ (.int .i64 v)).drew R a b ∧ Below w.heap.size w ((W.setCell ⟨A, 0, none⟩ (.int .i64 u)).setCell ⟨A, 1, none⟩ (.int .i64 v)).drew ∧ ((W.setCell ⟨A, 0, none⟩ (.int .i64 u)).setCell ⟨A, 1, none⟩ (.int .i64 v)).drew.heap.size = W.heap.size := by
  refine ⟨(hA.set01 u v).drew, ((hR.far (Below.heap_setCell W ⟨A, 0, none⟩ _ R hne)).far (Below.heap_setCell _ ⟨A, 1, none⟩ _ R hne)).drew, ((hb.setCell (p := ⟨A, 0, none⟩) hl _).setCell (p := ⟨A, 1, none⟩) hl _).drew, ?_⟩
  rw [World.size_drew, World.size_setCell, World.size_setCell]
theorem two_tuple {W : World} {R : Nat} {x y a b : Int} (h : Two W R x y) : ((W.setCell ⟨R, 0, none⟩ (.int .i64 a)).setCell ⟨R, 1, none⟩ (.int .i64 b)).drew.cell? ⟨R, 0, none⟩ = some (.int .i64 a) ∧ ((W.setCell ⟨R, 0, none⟩ (.int .i64 a)).setCell ⟨R, 1, none⟩ (.int .i64 b)).drew.cell? ⟨R, 1, none⟩ = some (.int .i64 b) := ⟨(h.set01 a b).k0, (h.set01 a b).k1⟩
set_option maxRecDepth 100000 in
set_option maxHeartbeats 4000000 in
theorem possible_yes (lo hi : Int) (w : World) :
    Calls Tryz.prog 109 #[.agg #[.int .i64 lo, .int .i64 hi], .bool true] w fun e w' => e = .returned (.agg #[.int .i64 lo, .int .i64 hi]) ∧ Below w.heap.size w w' := by
  go_enter Tryz.func109, Tryz.ntmps109
  go_wp2
  refine bodyPost_ret (v := .agg #[.int .i64 lo, .int .i64 hi]) (by simp [results, Tryz.results109, go_sem]) rfl ⟨rfl, ?_⟩
  exact ((Below.refl w.heap.size w).alloc (Nat.le_refl _) _).alloc (by rw [World.size_alloc]; omega) _
set_option maxRecDepth 100000 in
set_option maxHeartbeats 4000000 in
theorem possible_no (lo hi : Int) (w : World) :
    Calls Tryz.prog 109 #[.agg #[.int .i64 lo, .int .i64 hi], .bool false] w fun e w' => e = .panicked [{ v := .iface 228 (.agg #[]), recovered := false }] ∧ Below w.heap.size w w' := by
  go_enter Tryz.func109, Tryz.ntmps109
  go_wp2
  exact ⟨rfl, rfl, ((Below.refl w.heap.size w).alloc (Nat.le_refl _) _).alloc (by rw [World.size_alloc]; omega) _⟩
theorem narF_take {s : Int × Int} {l : List (Int × Int)} {k : Nat} {p : Int × Int} (h : l[k]? = some p) : narF (s :: l.take (k+1)) = (max (narF (s :: l.take k)).1 p.1, min (narF (s :: l.take k)).2 p.2) := by
  rw [List.take_add_one, h]; exact narF_push s (l.take k) p
set_option maxRecDepth 100000 in
set_option maxHeartbeats 4000000 in
theorem narrow_one (b off cap : Nat) (s0 s1 : Int) (w : World) (hb : b < w.heap.size) (e1 : w.cell? ⟨b, off, none⟩ = some (.int .i64 s0)) (e2 : w.cell? ⟨b, off + 1, none⟩ = some (.int .i64 s1)) (hc : 1 ≤ cap) :
    Calls Tryz.prog 110 #[.slice (some ⟨b, off, none⟩) 1 cap] w fun e w' => e = .returned (.tuple #[.agg #[.int .i64 s0, .int .i64 s1], .bool (decide (s0 ≤ s1))]) ∧ Below w.heap.size w w' := by
  obtain ⟨W0, hW0⟩ : ∃ W0, ((w.alloc (Obj.cells #[.int .i64 0, .int .i64 0] 24)).alloc (Obj.cells #[.int .i64 s0, .int .i64 s1] 24)) = W0 := ⟨_, rfl⟩
  have hb0 : Below w.heap.size w W0 := by rw [← hW0]; exact ((Below.refl _ _).alloc (Nat.le_refl _) _).alloc (by rw [World.size_alloc]; omega) _
  have hA0 : Two W0 (w.heap.size + 1) s0 s1 := by
    have h := Two.new (w.alloc (Obj.cells #[.int .i64 0, .int .i64 0] 24)) 24 s0 s1
    rw [World.size_alloc, hW0] at h; exact h
  have hR0 : Two W0 w.heap.size 0 0 := by
    have h := (Two.new w 24 0 0).below ((Below.refl _ _).alloc (Nat.le_refl _) (Obj.cells #[.int .i64 s0, .int .i64 s1] 24)) (by simp only [World.size_alloc]; omega)
    rw [hW0] at h; exact h
  go_enter Tryz.func110, Tryz.ntmps110
  go_wp2
  all_goals
    clear hW0
    obtain ⟨q0, q1, q2, q3⟩ := hA0
    have hR := hR0
    obtain ⟨r0, r1, r2, r3⟩ := hR0
    refine wp_loop_rounds 1 ?_
    rw [rounds_succ]
    go_wp2
    go_region_held3 (fun w' => w'.cell? ⟨w.heap.size + 1, 0, none⟩ = some (.int .i64 s0) ∧ w'.cell? ⟨w.heap.size + 1, 1, none⟩ = some (.int .i64 s1))
      (first
        | (go_keep; done)
        | (go_split_ands
           refine ⟨?_, ?_⟩ <;> (first | (rw [World.cell?_setCell_far _ _ _ _ (by simp), World.cell?_setCell_far _ _ _ _ (by simp)]; assumption))))
      (fail)
    obtain ⟨z0, z1⟩ := two_tuple (a := s0) (b := s1) hR
    generalize hWZ : ((W0.setCell ⟨w.heap.size, 0, none⟩ (.int .i64 s0)).setCell ⟨w.heap.size, 1, none⟩ (.int .i64 s1)).drew = WZ at z0 z1 ⊢
    go_wp2
    refine bodyPost_ret (v := .tuple #[.agg #[.int .i64 s0, .int .i64 s1], .bool (decide (s0 ≤ s1))]) (by simp [results, Tryz.results110, go_sem, z0, z1]) rfl ⟨rfl, ?_⟩
    rw [← hWZ]
    exact ((hb0.setCell (p := ⟨w.heap.size, 0, none⟩) (Nat.le_refl _) _).setCell (p := ⟨w.heap.size, 1, none⟩) (Nat.le_refl _) _).drew
set_option maxRecDepth 100000 in
set_option maxHeartbeats 4000000 in
theorem narrow_more (b off cap : Nat) (s0 s1 : Int) (l : List (Int × Int)) (w : World) (hn : l.length ≤ 1000) (hc : l.length + 1 ≤ cap) (hc2 : 2 ≤ cap) (hb : b < w.heap.size) (hp : Sps w b off ((s0, s1) :: l)) :
    Calls Tryz.prog 110 #[.slice (some ⟨b, off, none⟩) (l.length + 1) cap] w fun e w' => e = .returned (.tuple #[.agg #[.int .i64 (narF ((s0, s1) :: l)).1, .int .i64 (narF ((s0, s1) :: l)).2], .bool (decide ((narF ((s0, s1) :: l)).1 ≤ (narF ((s0, s1) :: l)).2))]) ∧ Below w.heap.size w w' := by
  obtain ⟨e1, e2⟩ := hp 0 _ rfl
  rw [Nat.zero_mul, Nat.add_zero] at e1 e2
  dsimp only at e1 e2
  obtain ⟨cp, rfl⟩ : ∃ cp, cap = cp + 2 := ⟨cap - 2, by omega⟩
  have h1 : (0 : Int) < ((l.length + 1 : Nat) : Int) := by omega
  have h2 : (1 : Int) ≤ ((l.length + 1 : Nat) : Int) := by omega
  obtain ⟨W0, hW0⟩ : ∃ W0, ((w.alloc (Obj.cells #[.int .i64 0, .int .i64 0] 24)).alloc (Obj.cells #[.int .i64 s0, .int .i64 s1] 24)) = W0 := ⟨_, rfl⟩
  have hb0 : Below w.heap.size w W0 := by rw [← hW0]; exact ((Below.refl _ _).alloc (Nat.le_refl _) _).alloc (by rw [World.size_alloc]; omega) _
  have hsz : W0.heap.size = w.heap.size + 1 + 1 := by rw [← hW0, World.size_alloc, World.size_alloc]
  have hA0 : Two W0 (w.heap.size + 1) s0 s1 := by
    have h := Two.new (w.alloc (Obj.cells #[.int .i64 0, .int .i64 0] 24)) 24 s0 s1
    rw [World.size_alloc, hW0] at h; exact h
  have hR0 : Two W0 w.heap.size 0 0 := by
    have h := (Two.new w 24 0 0).below ((Below.refl _ _).alloc (Nat.le_refl _) (Obj.cells #[.int .i64 s0, .int .i64 s1] 24)) (by simp only [World.size_alloc]; omega)
    rw [hW0] at h; exact h
  go_enter Tryz.func110, Tryz.ntmps110
  go_wp2
  clear hW0
  go_loopw [13] (fun i wr => ∃ (k : Nat), k ≤ l.length ∧ i = .int .i64 k ∧ Two wr (w.heap.size + 1) (narF ((s0, s1) :: l.take k)).1 (narF ((s0, s1) :: l.take k)).2 ∧ Two wr w.heap.size 0 0 ∧ Below w.heap.size w wr ∧ w.heap.size + 1 + 1 ≤ wr.heap.size) (fun i _ => l.length - (intOf i).toNat)
  case atStart => exact ⟨0, Nat.zero_le _, rfl, hA0, hR0, hb0, by omega⟩
  case round =>
    obtain ⟨k, hk, rfl, hA, hR, hbl, hsw⟩ := hrel
    by_cases hlt : k < l.length
    · obtain ⟨p, hpk⟩ : ∃ p, l[k]? = some p := ⟨l[k], List.getElem?_eq_getElem hlt⟩
      obtain ⟨e3, e4⟩ := (hp.below hbl hb) (k+1) p hpk
      rw [show off + (k + 1) * 2 = off + 2 + k * 2 by omega] at e3 e4
      have hnt := narF_take (s := (s0, s1)) hpk
      generalize narF ((s0, s1) :: l.take k) = x at hA hnt
      obtain ⟨x0, x1⟩ := x
      obtain ⟨y0, y1⟩ := p
      dsimp only at hA hnt e3 e4
      have hk0 : (0 : Int) ≤ (k : Int) := Int.natCast_nonneg _
      have hk1 : (k : Int) < (l.length : Int) := by omega
      have hne : w.heap.size + 1 ≠ wr.heap.size := by omega
      obtain ⟨WR, hWR⟩ : ∃ WR, wr.alloc (Obj.cells #[.int .i64 y0, .int .i64 y1] 24) = WR := ⟨_, rfl⟩
      have hbR : Below wr.heap.size wr WR := by rw [← hWR]; exact (Below.refl _ _).alloc (Nat.le_refl _) _
      have hsR : WR.heap.size = wr.heap.size + 1 := by rw [← hWR]; exact World.size_alloc _ _
      have hAR := hA.below hbR (by omega)
      have hRR := hR.below hbR (by omega)
      have hY : WR.cell? ⟨wr.heap.size, 0, none⟩ = some (.int .i64 y0) ∧ WR.cell? ⟨wr.heap.size, 1, none⟩ = some (.int .i64 y1) := by rw [← hWR]; exact ⟨cells_new wr _ _ rfl, cells_new wr _ _ rfl⟩
      have hA' := hAR
      obtain ⟨q0, q1, q2, q3⟩ := hA'
      obtain ⟨y3, y4⟩ := hY
      go_wp2_with fail
      refine wp_region_late [11, 13] (fun w9 => w9.cell? ⟨wr.heap.size, 0, none⟩ = some (.int .i64 y0) ∧ w9.cell? ⟨wr.heap.size, 1, none⟩ = some (.int .i64 y1)) (fun w9 => w9.cell? ⟨w.heap.size + 1, 0, none⟩ = some (.int .i64 x0) ∧ w9.cell? ⟨w.heap.size + 1, 1, none⟩ = some (.int .i64 x1)) (by kernel_rfl) ?_ (fun hHeld => ?_)
      · (exact ⟨⟨y3, y4⟩, q0, q1⟩)
      refine wpAnyP_take0 (i := 0) (v := ?_) rfl (by kernel_rfl) (by kernel_rfl) (by kernel_rfl) (by kernel_rfl) (by rfl) (fun _ _ _ h => h) (Or.inl ⟨by rfl, ?_⟩) hHeld ?_
      rotate_left 1
      · ((intro w9 hSw; (try dsimp only at hSw); go_simp) <;> with_reducible rfl)
      (try simp only [Act.put, List.setIfInBounds_toArray, List.set_cons_zero, List.set_cons_succ])
      refine wpAnyP_take 8 (i := 1) (v := ?_) rfl (by kernel_rfl) (by kernel_rfl) (by kernel_rfl) (by kernel_rfl) (by rfl) (by kernel_rfl) (fun _ _ _ h => h) (Or.inl ⟨by rfl, ?_⟩) hHeld ?_
      rotate_left 1
      · ((intro w9 hSw; (try dsimp only at hSw); go_simp) <;> with_reducible rfl)
      (try simp only [Act.put, List.setIfInBounds_toArray, List.set_cons_zero, List.set_cons_succ])
      refine wpAnyP_take0 (i := 2) (v := ?_) rfl (by kernel_rfl) (by kernel_rfl) (by kernel_rfl) (by kernel_rfl) (by rfl) (fun _ _ _ h => h) (Or.inl ⟨by rfl, ?_⟩) hHeld ?_
      rotate_left 1
      · ((intro w9 hSw; (try dsimp only at hSw); go_simp) <;> with_reducible rfl)
      (try simp only [Act.put, List.setIfInBounds_toArray, List.set_cons_zero, List.set_cons_succ])
      refine wpAnyP_take0 (i := 3) (v := ?_) rfl (by kernel_rfl) (by kernel_rfl) (by kernel_rfl) (by kernel_rfl) (by rfl) (fun _ _ _ h => h) (Or.inl ⟨by rfl, ?_⟩) hHeld ?_
      rotate_left 1
      · ((intro w9 hSw; (try dsimp only at hSw); go_simp) <;> with_reducible rfl)
      (try simp only [Act.put, List.setIfInBounds_toArray, List.set_cons_zero, List.set_cons_succ])
      refine wpAnyP_take0 (i := 4) (v := ?_) rfl (by kernel_rfl) (by kernel_rfl) (by kernel_rfl) (by kernel_rfl) (by rfl) (fun _ _ _ h => h) (Or.inl ⟨by rfl, ?_⟩) hHeld ?_
      rotate_left 1
      · ((intro w9 hSw; (try dsimp only at hSw); go_simp) <;> with_reducible rfl)
      (try simp only [Act.put, List.setIfInBounds_toArray, List.set_cons_zero, List.set_cons_succ])
      refine wpAnyP_take0 (i := 5) (v := ?_) rfl (by kernel_rfl) (by kernel_rfl) (by kernel_rfl) (by kernel_rfl) (by rfl) (fun _ _ _ h => h) (Or.inl ⟨by rfl, ?_⟩) hHeld ?_
      rotate_left 1
      · ((intro w9 hSw; (try dsimp only at hSw); go_simp) <;> with_reducible rfl)
      (try simp only [Act.put, List.setIfInBounds_toArray, List.set_cons_zero, List.set_cons_succ])
      refine wpAnyP_take 8 (i := 6) (v := ?_) rfl (by kernel_rfl) (by kernel_rfl) (by kernel_rfl) (by kernel_rfl) (by rfl) (by kernel_rfl) (fun _ _ _ h => h) (Or.inl ⟨by rfl, ?_⟩) hHeld ?_
      rotate_left 1
      · ((intro w9 hSw; (try dsimp only at hSw); go_simp) <;> with_reducible rfl)
      (try simp only [Act.put, List.setIfInBounds_toArray, List.set_cons_zero, List.set_cons_succ])
      refine wpAnyP_take0 (i := 7) (v := ?_) rfl (by kernel_rfl) (by kernel_rfl) (by kernel_rfl) (by kernel_rfl) (by rfl) (fun _ _ _ h => h) (Or.inl ⟨by rfl, ?_⟩) hHeld ?_
      rotate_left 1
      · ((intro w9 hSw; (try dsimp only at hSw); go_simp) <;> with_reducible rfl)
      (try simp only [Act.put, List.setIfInBounds_toArray, List.set_cons_zero, List.set_cons_succ])
      refine wpAnyP_take0 (i := 8) (v := ?_) rfl (by kernel_rfl) (by kernel_rfl) (by kernel_rfl) (by kernel_rfl) (by rfl) (fun _ _ _ h => h) (Or.inl ⟨by rfl, ?_⟩) hHeld ?_
      rotate_left 1
      · ((intro w9 hSw; (try dsimp only at hSw); go_simp) <;> with_reducible rfl)
      (try simp only [Act.put, List.setIfInBounds_toArray, List.set_cons_zero, List.set_cons_succ])
      refine wpAnyP_take0 (i := 9) (v := ?_) rfl (by kernel_rfl) (by kernel_rfl) (by kernel_rfl) (by kernel_rfl) (by rfl) (fun _ _ _ h => h) (Or.inl ⟨by rfl, ?_⟩) hHeld ?_
      rotate_left 1
      · ((intro w9 hSw; (try dsimp only at hSw); go_simp) <;> with_reducible rfl)
      (try simp only [Act.put, List.setIfInBounds_toArray, List.set_cons_zero, List.set_cons_succ])
      refine wpAnyP_take0 (i := 10) (v := ?_) rfl (by kernel_rfl) (by kernel_rfl) (by kernel_rfl) (by kernel_rfl) (by rfl) (fun _ _ _ h => h) (Or.inl ⟨by rfl, ?_⟩) hHeld ?_
      rotate_left 1
      · ((intro w9 hSw; (try dsimp only at hSw); go_simp) <;> with_reducible rfl)
      (try simp only [Act.put, List.setIfInBounds_toArray, List.set_cons_zero, List.set_cons_succ])
      refine wpAnyP_ready (rs := [11]) (by kernel_rfl) (by simp) ?_
      refine AllReadyP.behind (o := _) rfl (by kernel_rfl) (fun K hK => ?_) AllReadyP.nil
      · go_simp
        refine hK.out _ _ ?_ (fun hHeld => ?_)
        · ((exact ⟨(World.cell?_setCell_far _ _ _ _ (by simp; omega)).trans hHeld.1.1, (World.cell?_setCell_far _ _ _ _ (by simp; omega)).trans hHeld.1.2⟩))
        clear hK K
        (try simp only [Act.put, List.setIfInBounds_toArray, List.set_cons_zero, List.set_cons_succ])
        refine wpAnyP_takeB (i := 12) (v := ?_) rfl (by kernel_rfl) (by kernel_rfl) (by kernel_rfl) (by kernel_rfl) (by rfl) (by kernel_rfl) (fun _ _ _ h => h) (Or.inl ⟨by rfl, ?_⟩) hHeld ?_
        rotate_left 1
        · ((intro w9 hSw; (try dsimp only at hSw); go_simp) <;> with_reducible rfl)
        (try simp only [Act.put, List.setIfInBounds_toArray, List.set_cons_zero, List.set_cons_succ])
        refine wpAnyP_ready (rs := [13]) (by kernel_rfl) (by simp) ?_
        refine AllReadyP.behind (o := _) rfl (by kernel_rfl) (fun K hK => ?_) AllReadyP.nil
        · go_simp
          refine hK.out _ _ ?_ (fun hHeld => ?_)
          · ((exact ⟨(World.cell?_setCell_far _ _ _ _ (by simp; omega)).trans hHeld.1, (World.cell?_setCell_far _ _ _ _ (by simp; omega)).trans hHeld.2⟩))
          clear hK K
          (try simp only [Act.put, List.setIfInBounds_toArray, List.set_cons_zero, List.set_cons_succ])
          refine wpAnyP_done (by kernel_rfl) ?_ _
          (try simp only [Act.put, List.getElem_toArray, List.getElem_cons_zero, List.getElem_cons_succ, List.setIfInBounds_toArray, List.set_cons_zero, List.set_cons_succ])
          rw [two_max, two_min]
          obtain ⟨p1, p2, p3, p4⟩ := Two.step (u := max x0 y0) (v := min x1 y1) hAR hRR (by omega) (hbl.trans (hbR.mono hbl.size)) (Nat.le_succ _)
          have hn1 : max x0 y0 = (narF ((s0, s1) :: l.take (k + 1))).1 := by rw [hnt]
          have hn2 : min x1 y1 = (narF ((s0, s1) :: l.take (k + 1))).2 := by rw [hnt]
          generalize hWZ : ((WR.setCell ⟨w.heap.size + 1, 0, none⟩ (.int .i64 (max x0 y0))).setCell ⟨w.heap.size + 1, 1, none⟩ (.int .i64 (min x1 y1))).drew = WZ at p1 p2 p3 p4 ⊢
          rw [hn1, hn2] at p1
          clear hWZ
          go_wp2
          go_roundw
          case rel => exact ⟨k + 1, by omega, by go_num, p1, p2, p3, by omega⟩
          case measure => simp [intOf]; omega
    · obtain rfl : k = l.length := by omega
      rw [List.take_length] at hA
      obtain ⟨q0, q1, q2, q3⟩ := hA
      have hRc := hR
      obtain ⟨r0, r1, r2, r3⟩ := hR
      go_wp2
      go_region_held3 (fun w' => w'.cell? ⟨w.heap.size + 1, 0, none⟩ = some (.int .i64 (narF ((s0, s1) :: l)).1) ∧ w'.cell? ⟨w.heap.size + 1, 1, none⟩ = some (.int .i64 (narF ((s0, s1) :: l)).2))
        (first
          | (go_keep; done)
          | (go_split_ands
             refine ⟨?_, ?_⟩ <;> (first | (rw [World.cell?_setCell_far _ _ _ _ (by simp), World.cell?_setCell_far _ _ _ _ (by simp)]; assumption))))
        (fail)
      obtain ⟨z0, z1⟩ := two_tuple (a := (narF ((s0, s1) :: l)).1) (b := (narF ((s0, s1) :: l)).2) hRc
      generalize hWZ : ((wr.setCell ⟨w.heap.size, 0, none⟩ (.int .i64 (narF ((s0, s1) :: l)).1)).setCell ⟨w.heap.size, 1, none⟩ (.int .i64 (narF ((s0, s1) :: l)).2)).drew = WZ at z0 z1 ⊢
      go_wp2
      refine bodyPost_ret (v := .tuple #[.agg #[.int .i64 (narF ((s0, s1) :: l)).1, .int .i64 (narF ((s0, s1) :: l)).2], .bool (decide ((narF ((s0, s1) :: l)).1 ≤ (narF ((s0, s1) :: l)).2))]) (by simp [results, Tryz.results110, go_sem, z0, z1]) rfl ⟨rfl, ?_⟩
      rw [← hWZ]
      exact ((hbl.setCell (p := ⟨w.heap.size, 0, none⟩) (Nat.le_refl _) _).setCell (p := ⟨w.heap.size, 1, none⟩) (Nat.le_refl _) _).drew
theorem narrow_any (b off cap : Nat) (s : Int × Int) (l : List (Int × Int)) (w : World) (hn : l.length ≤ 1000) (hc : l.length + 1 ≤ cap) (hb : b < w.heap.size) (hp : Sps w b off (s :: l)) :
    Calls Tryz.prog 110 #[.slice (some ⟨b, off, none⟩) (l.length + 1) cap] w fun e w' => e = .returned (.tuple #[.agg #[.int .i64 (narF (s :: l)).1, .int .i64 (narF (s :: l)).2], .bool (decide ((narF (s :: l)).1 ≤ (narF (s :: l)).2))]) ∧ Below w.heap.size w w' := by
  obtain ⟨s0, s1⟩ := s
  cases l with
  | nil =>
    obtain ⟨e1, e2⟩ := hp 0 _ rfl
    rw [Nat.zero_mul, Nat.add_zero] at e1 e2
    exact narrow_one b off cap s0 s1 w hb e1 e2 hc
  | cons t l => exact narrow_more b off cap s0 s1 (t :: l) w hn hc (by rw [List.length_cons] at hc; omega) hb hp
end Go.Proofs.YtppefjmllebacaaGreatDoor
