/- A part of the proof: see the last file. -/
import Derived.Test.YtdilcbocnndkmaaGreatDoorY1
import Derived.Test.YtdilcbocnndkmaaGreatDoorY3
import Derived.Test.YtdilcbocnndkmaaGreatDoorX14
set_option linter.unusedVariables false
set_option linter.unusedSimpArgs false
set_option linter.unusedSectionVars false
namespace Go.Proofs.YtdilcbocnndkmaaGreatDoor
open Go.RowKit Go.Can
/-- an order in memory. -/
def OrdAt (w : World) (b off n : Nat) (q : List Nat) : Prop := ∀ i, i < n → w.cell? ⟨b, off + i, none⟩ = some (.int .i64 ((q.getD i 0 : Nat) : Int))
theorem OrdAt.below {w w' : World} {b off n : Nat} {q : List Nat} (h : OrdAt w b off n q) (hb : Below w.heap.size w w') (hl : b < w.heap.size) : OrdAt w' b off n q := fun i hi => (hb.cell (p := ⟨b, off + i, none⟩) hl).trans (h i hi)
theorem agQ_no {fit : Nat → Nat → Bool} {n i : Nat} {q : List Nat} (hi : i < n) (h : fit i (q.getD i 0) = false) : agQ fit n q = false := by
  unfold agQ; exact decide_eq_false (fun hh => by have := hh i hi; rw [h] at this; cases this)
theorem agQ_yes {fit : Nat → Nat → Bool} {n : Nat} {q : List Nat} (h : ∀ i, i < n → fit i (q.getD i 0) = true) : agQ fit n q = true := by unfold agQ; exact decide_eq_true h
set_option maxRecDepth 100000 in
set_option maxHeartbeats 2000000 in
theorem ragrees_any (pb po pc n t ob oo oc hb ho hc : Nat) (q : List Nat) (HX HY PX PY : Nat → Int) (r : Int) (w : World) (ht : t < 8) (hn : n ≤ 6) (hr0 : 0 ≤ r) (hr1 : r ≤ 500)
    (hP : Pts w pb po n PX PY) (hH : Pts w hb ho n HX HY) (hO : OrdAt w ob oo n q) (lp : pb < w.heap.size) (lh : hb < w.heap.size) (lo : ob < w.heap.size)
    (hq : ∀ i, i < n → q.getD i 0 < n) (hsP : ∀ i, i < n → small (PX i, PY i)) (hsH : ∀ i, i < n → small (HX i, HY i)) :
    Calls Tryz.prog 59 #[.slice (some ⟨pb, po, none⟩) n pc, .int .i64 t, .slice (some ⟨ob, oo, none⟩) n oc, .slice (some ⟨hb, ho, none⟩) n hc, .int .i64 r] w fun e w' => e = .returned (.bool (agQ (fitB HX HY PX PY r t) n q)) ∧ Below w.heap.size w w' := by
  go_enter Tryz.func59, Tryz.ntmps59
  go_wp2
  go_loopw [11] (fun i wr => ∃ k : Nat, k ≤ n ∧ i = .int .i64 k ∧ Below w.heap.size w wr ∧ ∀ m, m < k → fitB HX HY PX PY r t m (q.getD m 0) = true) (fun i _ => n - (intOf i).toNat)
  case atStart => exact ⟨0, Nat.zero_le _, rfl, Below.refl _ _, fun _ h => absurd h (Nat.not_lt_zero _)⟩
  case round =>
    obtain ⟨i, hi, rfl, hbl, hall⟩ := hrel
    have hzl := hbl.size
    by_cases hlt : i < n
    · obtain ⟨d1, d2⟩ := (hH.below hbl lh) i hlt
      obtain ⟨d3, d4⟩ := (hP.below hbl lp) (q.getD i 0) (hq i hlt)
      have d5 := (hO.below hbl lo) i hlt
      obtain ⟨⟨s1, s2⟩, s3, s4⟩ := hsH i hlt
      obtain ⟨⟨u1, u2⟩, u3, u4⟩ := hsP (q.getD i 0) (hq i hlt)
      obtain ⟨⟨v1, v2⟩, v3, v4⟩ := trn_small (t := t) (hsP (q.getD i 0) (hq i hlt))
      have hqi := hq i hlt
      generalize hj : q.getD i 0 = j at *
      dsimp only at s1 s2 s3 s4 u1 u2 u3 u4
      have hT := fun W => rturn_any t ht (PX j) (PY j) u1 u2 u3 u4 W
      generalize hqx : (trn t (PX j, PY j)).1 = qx at *
      generalize hqy : (trn t (PX j, PY j)).2 = qy at *
      have hi0 : (0 : Int) ≤ (i : Int) := Int.natCast_nonneg _
      have hi1 : (i : Int) < (n : Int) := by omega
      have hj0 : (0 : Int) ≤ (j : Int) := Int.natCast_nonneg _
      have hj1 : (j : Int) < (n : Int) := by omega
      have hfit : fitB HX HY PX PY r t i j = nearR qx qy (HX i) (HY i) r := by rw [nearR_nearB]; unfold fitB; rw [hqx, hqy]
      go_wp2_with fail
      go_region_held3 (fun w' => w'.cell? ⟨ob, oo + i, none⟩ = some (.int .i64 j) ∧ w'.cell? ⟨pb, po + j * 2, none⟩ = some (.int .i64 (PX j)) ∧ w'.cell? ⟨pb, po + j * 2 + 1, none⟩ = some (.int .i64 (PY j)) ∧ w'.cell? ⟨hb, ho + i * 2, none⟩ = some (.int .i64 (HX i)) ∧ w'.cell? ⟨hb, ho + i * 2 + 1, none⟩ = some (.int .i64 (HY i)))
        (first
          | (go_keep; done)
          | (go_split_ands
             refine ⟨?_, ?_, ?_, ?_, ?_⟩ <;> (rw [hbb.cell (by first | omega | (simp; omega) | simp)]; assumption)))
        (first
          | (go_at_call 104; refine (hT _).mono ?_; rintro e w' ⟨rfl, hbb⟩; have hs := hbb.size; try simp only [World.size_alloc, World.size_drew] at hs)
          | (go_at_call 103; refine (rnear_any _ _ _ _ _ (by omega) (by omega) (by omega) (by omega) (by omega) (by omega) (by omega) (by omega) (by omega) (by omega) _).mono ?_; rintro e w' ⟨rfl, hbb⟩; have hs := hbb.size; try simp only [World.size_alloc, World.size_drew] at hs))
      rename_i wA hA hsA _
      have hbw : Below w.heap.size w w' := hbl.trans ((((Below.refl _ _).drew).trans ((hA.mono (by simp)).trans (hbb.mono (by simpa using hsA)))).mono hzl)
      cases hv : nearR qx qy (HX i) (HY i) r with
      | true =>
        rw [hv] at hfit
        go_wp2
        go_roundw
        case rel => exact ⟨i + 1, by omega, by go_num, hbw, all_succ (p := fun m => fitB HX HY PX PY r t m (q.getD m 0) = true) hall (by rw [hj]; exact hfit)⟩
        case measure => simp [intOf]; omega
      | false =>
        rw [hv] at hfit
        go_wp2
        go_ret
        exact ⟨ret_bool (agQ_no hlt (by rw [hj]; exact hfit)).symm, hbw⟩
    · obtain rfl : n = i := by omega
      go_wp2
      go_ret
      exact ⟨ret_bool (agQ_yes hall).symm, hbl⟩
/-! ### The reference's Match -/
theorem find_at {P : List Nat → Bool} {l : List (List Nat)} {k : Nat} (hk : k < l.length) (hno : ∀ j, j < k → ∀ h : j < l.length, P l[j] = false) (hyes : P l[k] = true) : l.find? P = some l[k] := by
  induction l generalizing k with
  | nil => simp at hk
  | cons a l ih =>
    cases k with
    | zero => simp at hyes ⊢; simp [List.find?_cons, hyes]
    | succ k =>
      have h0 := hno 0 (by omega) (by simp)
      simp at h0
      rw [List.find?_cons, h0]
      simp at hyes hk ⊢
      exact ih hk (fun j hj h => by have := hno (j+1) (by omega) (by simp; omega); simpa using this) hyes
theorem find_no {P : List Nat → Bool} {l : List (List Nat)} (hno : ∀ j, j < l.length → ∀ h : j < l.length, P l[j] = false) : l.find? P = none := by
  rw [List.find?_eq_none]
  intro x hx
  obtain ⟨j, hj, rfl⟩ := List.getElem_of_mem hx
  rw [hno j hj hj]; simp
theorem ords_perm {many : Nat} (h1 : 2 ≤ many) (h2 : many ≤ 4) : ∀ q ∈ ords many, q.length = many ∧ ∀ i, i < many → q.getD i 0 < many := by
  obtain rfl | rfl | rfl : many = 2 ∨ many = 3 ∨ many = 4 := by omega
  · rw [ords2]; decide
  · rw [ords3]; decide
  · rw [ords4]; decide
theorem SlI_ord {w : World} {v : Value} {q : List Nat} (h : SlI w v (q.map Int.ofNat)) : ∃ b o cap, v = .slice (some ⟨b, o, none⟩) q.length cap ∧ q.length ≤ cap ∧ b < w.heap.size ∧ OrdAt w b o q.length q := by
  obtain ⟨b, o, cap, h1, h0, h2, h3⟩ := h
  rw [List.length_map] at h1 h0
  refine ⟨b, o, cap, h1, h0, h2, fun i hi => ?_⟩
  rw [h3 i (by rw [List.length_map]; exact hi)]
  simp [List.getD, hi]
end Go.Proofs.YtdilcbocnndkmaaGreatDoor
