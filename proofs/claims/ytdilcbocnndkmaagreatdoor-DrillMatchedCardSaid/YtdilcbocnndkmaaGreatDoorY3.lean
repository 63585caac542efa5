/- A part of the proof: see the last file. -/
import Derived.Test.YtdilcbocnndkmaaGreatDoorCh
import Derived.Test.YtdilcbocnndkmaaGreatDoorKf
import Derived.Test.YtdilcbocnndkmaaGreatDoorY2
set_option linter.unusedVariables false
set_option linter.unusedSimpArgs false
set_option linter.unusedSectionVars false
namespace Go.Proofs.YtdilcbocnndkmaaGreatDoor
open Go.RowKit Go.Can
def eqL : List Int → List Int → Bool
  | [], [] => true
  | x :: l, y :: m => decide (x = y) && eqL l m
  | _, _ => false
theorem eqL_ok : ∀ {l m : List Int}, eqL l m = true → l = m
  | [], [], _ => rfl
  | x :: l, y :: m, h => by
    simp only [eqL, Bool.and_eq_true, decide_eq_true_iff] at h
    rw [h.1, eqL_ok h.2]
  | [], _ :: _, h => by simp [eqL] at h
  | _ :: _, [], h => by simp [eqL] at h
def eqLL : List (List Int) → List (List Int) → Bool
  | [], [] => true
  | x :: l, y :: m => eqL x y && eqLL l m
  | _, _ => false
theorem eqLL_ok : ∀ {l m : List (List Int)}, eqLL l m = true → l = m
  | [], [], _ => rfl
  | x :: l, y :: m, h => by
    simp only [eqLL, Bool.and_eq_true] at h
    rw [eqL_ok h.1, eqLL_ok h.2]
  | [], _ :: _, h => by simp [eqLL] at h
  | _ :: _, [], h => by simp [eqLL] at h
noncomputable def isII (m : List (List Int)) (v : Value) (c : CW) : Bool := match readII c v with
  | some l => eqLL l m
  | none => false
theorem isII_ok {m : List (List Int)} {v v' : Value} {c : CW} {f : Mp} {w : World} (h : isII m v c = true) (hv : VR f v v') (hh : HR f c w) (hm : 0 < m.length) (hall : ∀ x ∈ m, 0 < x.length) : SlII w v' m := by
  unfold isII at h
  split at h
  · next l hl => rw [eqLL_ok h] at hl; exact readII_ok hv hh hl hm hall
  · cases h
/-- the orders as integers. -/
def ordI (many : Nat) : List (List Int) := (ords many).map fun q => q.map Int.ofNat
def L2 : List (List Int) := [[0,1],[1,0]]
def L3 : List (List Int) := [[0,1,2],[0,2,1],[1,0,2],[1,2,0],[2,0,1],[2,1,0]]
def L4 : List (List Int) := [[0,1,2,3],[0,1,3,2],[0,2,1,3],[0,2,3,1],[0,3,1,2],[0,3,2,1],[1,0,2,3],[1,0,3,2],[1,2,0,3],[1,2,3,0],[1,3,0,2],[1,3,2,0],[2,0,1,3],[2,0,3,1],[2,1,0,3],[2,1,3,0],[2,3,0,1],[2,3,1,0],[3,0,1,2],[3,0,2,1],[3,1,0,2],[3,1,2,0],[3,2,0,1],[3,2,1,0]]
set_option maxRecDepth 10000000 in
set_option maxHeartbeats 0 in
theorem ords_run2 : runsA Tryz.prog [] 10000000 58 [.int .i64 2] (isII L2) = true := by kernel_rfl
set_option maxRecDepth 10000000 in
set_option maxHeartbeats 0 in
theorem ords_run3 : runsA Tryz.prog [] 10000000 58 [.int .i64 3] (isII L3) = true := by kernel_rfl
set_option maxRecDepth 10000000 in
set_option maxHeartbeats 0 in
theorem ords_run4 : runsA Tryz.prog [] 10000000 58 [.int .i64 4] (isII L4) = true := by kernel_rfl
theorem KG.num {w : World} (h : KG w) : Glob.num ≤ w.heap.size := by
  obtain ⟨e, f, h4⟩ := h.db64
  exact (Array.getElem?_eq_some_iff.1 h4).1
theorem rorders_any (many : Nat) (h1 : 2 ≤ many) (h2 : many ≤ 4) (w : World) (hk : KG w) :
    Calls Tryz.prog 58 #[.int .i64 many] w fun e w' => ∃ v, e = .returned v ∧ SlII w' v (ordI many) ∧ Below w.heap.size w w' := by
  obtain rfl | rfl | rfl : many = 2 ∨ many = 3 ∨ many = 4 := by omega
  · refine (runsA_sound fair (fun _ h => by cases h) (by decide) ords_run2 w hk.num).mono fun e w' ⟨v, v', c, f, he, hc, hv, hh, hb⟩ => ?_
    have e2 : ordI 2 = L2 := by unfold ordI; rw [ords2]; rfl
    exact ⟨v', he, by rw [e2]; exact isII_ok hc hv hh (by decide) (by decide), hb⟩
  · refine (runsA_sound fair (fun _ h => by cases h) (by decide) ords_run3 w hk.num).mono fun e w' ⟨v, v', c, f, he, hc, hv, hh, hb⟩ => ?_
    have e2 : ordI 3 = L3 := by unfold ordI; rw [ords3]; rfl
    exact ⟨v', he, by rw [e2]; exact isII_ok hc hv hh (by decide) (by decide), hb⟩
  · refine (runsA_sound fair (fun _ h => by cases h) (by decide) ords_run4 w hk.num).mono fun e w' ⟨v, v', c, f, he, hc, hv, hh, hb⟩ => ?_
    have e2 : ordI 4 = L4 := by unfold ordI; rw [ords4]; rfl
    exact ⟨v', he, by rw [e2]; exact isII_ok hc hv hh (by decide) (by decide), hb⟩
end Go.Proofs.YtdilcbocnndkmaaGreatDoor
