/- A part of the proof: see the last file. -/
import Derived.Test.YtjhpklolpmaopaaGreatDoorPai
import Derived.Test.YtjhpklolpmaopaaGreatDoorPaa
import Derived.Test.YtjhpklolpmaopaaGreatDoorPad
import Derived.Maps.OwnSet
import Derived.Below
import Derived.Test.YtjhpklolpmaopaaGreatDoorPab
import Derived.DeepKeys4
import Derived.Test.YtjhpklolpmaopaaGreatDoorPae
set_option linter.unusedVariables false
set_option linter.unusedSimpArgs false
set_option linter.unusedSectionVars false
namespace Go.Proofs.YtjhpklolpmaopaaGreatDoor
open Go.RowKit
def Mach.zmark : Value := .agg #[.int .i64 0, .int .i64 0, .int .i64 0, .int .i64 0, .int .i64 0]
theorem Tryz.info126 : (Tryz.prog.info? 126).map (fun i => (i.zero, i.size, i.bytes)) = some (some Mach.zmark, 5, 40) := by kernel_rfl
theorem cells_five (w : World) (a b c d f : Value) (e : TypeId) : ∀ (j : Nat) (u : Value), [a, b, c, d, f][j]? = some u → (w.alloc (Obj.cells #[a, b, c, d, f] e)).cell? ((⟨w.heap.size, 0, none⟩ : Addr).add j) = some u := by
 intro j u h
 match j, h with
 | 0, h => simp at h; subst h; simp [go_sem, Addr.add]
 | 1, h => simp at h; subst h; simp [go_sem, Addr.add]
 | 2, h => simp at h; subst h; simp [go_sem, Addr.add]
 | 3, h => simp at h; subst h; simp [go_sem, Addr.add]
 | 4, h => simp at h; subst h; simp [go_sem, Addr.add]
 | n+5, h => simp at h
set_option maxRecDepth 100000 in
set_option maxHeartbeats 4000000 in
theorem rmarks_any (m : Mach) (w : World) (hok : m.ok = true) (h : MIn w m) :
  Calls Tryz.prog 63 #[m.val] w fun e w' => ∃ v', e = .returned v' ∧ MkSl w' v' m.rn m.mark ∧ Below w.heap.size w w' := by
 obtain ⟨i0, hi, hz0, hz1, hz2⟩ := info_parts Tryz.info126
 obtain ⟨W0, hW⟩ : ∃ W0, w.alloc (.cells #[.slice m.sa m.sn m.sc, .int .i64 m.c0, .int .i64 m.c1, .int .i64 m.d0, .int .i64 m.d1, .int .i64 m.w0, .int .i64 m.w1, .int .i64 m.v0, .int .i64 m.v1, .slice m.ra m.rn m.rc] 27) = W0 := ⟨_, rfl⟩
 have hO : Below w.heap.size w W0 := by rw [← hW]; exact (Below.refl _ _).alloc (Nat.le_refl _) _
 have hM : MAt W0 w.heap.size m := by rw [← hW]; exact MAt.new w m
 have hsz : W0.heap.size = w.heap.size + 1 := by rw [← hW, World.size_alloc]
 obtain ⟨_, hfew, _, _⟩ := Mach.ok_parts hok
 have hrd := Mach.reads hok
 obtain ⟨q0, q1, q2, q3, q4, q5, q6, q7, q8, q9⟩ := id hM
 go_enter Tryz.func63, Tryz.ntmps63
 go_wp2_with fail
 go_loopw [3, 4] (fun v i wr => ∃ (k : Nat), k ≤ m.rn ∧ i = .int .i64 k ∧ wr.ownsRow W0.heap.size 126 5 v k (markCells m.mark k) ∧ Below W0.heap.size W0 wr) (fun _ i _ => m.rn - (intOf i).toNat)
 case atStart => exact ⟨0, Nat.zero_le _, rfl, ⟨rfl, .inl ⟨rfl, rfl⟩⟩, Below.refl _ _⟩
 case round =>
  obtain ⟨k, hk, rfl, hown, hbl⟩ := hrel
  have hk0 : (0 : Int) ≤ (k : Int) := Int.natCast_nonneg _
  have hMr := hM.below hbl (by omega)
  clear q0 q1 q2 q3 q4 q5 q6 q7 q8 q9
  obtain ⟨q0, q1, q2, q3, q4, q5, q6, q7, q8, q9⟩ := id hMr
  by_cases hlt : k < m.rn
  ·have hlt' : (k : Int) < (m.rn : Int) := by omega
   have hrs := (h.below hO).below hbl |>.reads
   obtain ⟨b, off, hra, hb, hp⟩ : ∃ b off, m.ra = some ⟨b, off, none⟩ ∧ b < wr.heap.size ∧ RPts wr b off m.rn m.RB m.RX m.RY m.RE := by
    rcases hrs with ⟨a, c, e, h0⟩ | ⟨b, off, cap, e, hb, hp⟩
    ·omega
    ·injection e with e1 e2 e3
     exact ⟨b, off, e1, hb, hp⟩
   rw [hra] at q9
   obtain ⟨e0, e1, e2, e3⟩ := hp k hlt
   obtain ⟨r0, r1, r2, r3⟩ := hrd k hlt
   have hmc : markCells m.mark (k + 1) = markCells m.mark k ++ [.int .i64 (m.RB k), .int .i64 (m.RX k - m.RE k), .int .i64 (m.RX k + m.RE k), .int .i64 (m.RY k - m.RE k), .int .i64 (m.RY k + m.RE k)] := rfl
   generalize m.RB k = B at e0 r0 hmc
   generalize m.RX k = X at e1 r1 hmc
   generalize m.RY k = Y at e2 r2 hmc
   generalize m.RE k = E at e3 r3 hmc
   have hw0 : IntKind.i64.wrap (X - E) = X - E := IntWalk.i64_in _ (by omega)
   have hw1 : IntKind.i64.wrap (X + E) = X + E := IntWalk.i64_in _ (by omega)
   have hw2 : IntKind.i64.wrap (Y - E) = Y - E := IntWalk.i64_in _ (by omega)
   have hw3 : IntKind.i64.wrap (Y + E) = Y + E := IntWalk.i64_in _ (by omega)
   clear hp hrs hMr q0 q1 q2 q3 q4 q5 q6 q7 q8
   have hbs := hbl.size
   go_wp2_with (at_builtin; refine wpList_append_own _ rfl _ _ 118 rfl W0.heap.size 126 i0 Mach.zmark 5 40 Tryz.underlying118 hi hz0 hz1 hz2 rfl (by decide) _ k _ rfl ((hown.alloc _).alloc _) ⟨wr.heap.size + 1, 0, none⟩ 1 1 [.int .i64 B, .int .i64 (X - E), .int .i64 (X + E), .int .i64 (Y - E), .int .i64 (Y + E)] rfl rfl ?c1 ?c2 ?c3 ?c4 ?c5 ?_)
   case c1 =>
    have hcf := cells_five (wr.alloc (Obj.cells #[.int .i64 B, .int .i64 X, .int .i64 Y, .int .i64 E] 60)) (.int .i64 B) (.int .i64 (X - E)) (.int .i64 (X + E)) (.int .i64 (Y - E)) (.int .i64 (Y + E)) 126
    rw [World.size_alloc] at hcf
    exact hcf
   case c2 => simp [Value.oneCell']
   case c3 => unfold maxLen; omega
   case c4 => omega
   case c5 => rw [World.size_alloc, World.size_alloc]; omega
   intro v3 w3 hown3 hgrow _
   have hb3 : Below W0.heap.size W0 w3 := ((hbl.alloc hbl.size _).alloc (by rw [World.size_alloc]; omega) _).grown hgrow (by rw [World.size_alloc, World.size_alloc]; omega) fun j hj => (hown.lt j hj).1
   rw [← hmc] at hown3
   clear hgrow hown e0 e1 e2 e3 q9 hmc
   go_wp2
   go_roundw
   case rel => exact ⟨k + 1, by omega, by go_num, by rw [hsz]; exact hown3, hb3⟩
   case measure => simp [intOf]; omega
  ·have hkk : k = m.rn := by omega
   have hng : ¬ ((k : Int) < (m.rn : Int)) := by omega
   have hms := own_marks hown
   rw [hkk] at hms
   go_wp2
   go_ret
   exact ⟨_, rfl, hms, hO.trans (hbl.mono hO.size)⟩
end Go.Proofs.YtjhpklolpmaopaaGreatDoor
namespace Go.Proofs.YtjhpklolpmaopaaGreatDoor
open Go.RowKit Go.Shelf
theorem markCells_last {f : Nat → Int × Int × Int × Int × Int} {n j : Nat} {u : Value} (h : (markCells f (n + 1))[j]? = some u) : (markCells f n)[j]? = some u ∨ (j = n * 5 ∧ u = .int .i64 (f n).1) ∨ (j = n * 5 + 1 ∧ u = .int .i64 (f n).2.1) ∨ (j = n * 5 + 2 ∧ u = .int .i64 (f n).2.2.1) ∨ (j = n * 5 + 3 ∧ u = .int .i64 (f n).2.2.2.1) ∨ (j = n * 5 + 4 ∧ u = .int .i64 (f n).2.2.2.2) := by
 unfold markCells at h
 by_cases hj : j < n * 5
 ·rw [List.getElem?_append_left (by rw [markCells_len]; exact hj)] at h
  exact .inl h
 ·rw [List.getElem?_append_right (by rw [markCells_len]; omega), markCells_len] at h
  obtain ⟨k, hk⟩ : ∃ k, j - n * 5 = k := ⟨_, rfl⟩
  rw [hk] at h
  match k, h with
  | 0, h => cases h; exact .inr (.inl ⟨by omega, rfl⟩)
  | 1, h => cases h; exact .inr (.inr (.inl ⟨by omega, rfl⟩))
  | 2, h => cases h; exact .inr (.inr (.inr (.inl ⟨by omega, rfl⟩)))
  | 3, h => cases h; exact .inr (.inr (.inr (.inr (.inl ⟨by omega, rfl⟩))))
  | 4, h => cases h; exact .inr (.inr (.inr (.inr (.inr ⟨by omega, rfl⟩))))
  | k+5, h => cases h
theorem markCells_get {w : World} {b off : Nat} {f : Nat → Int × Int × Int × Int × Int} : ∀ {n : Nat}, MkPts w b off n f → ∀ j u, (markCells f n)[j]? = some u → w.cell? ⟨b, off + j, none⟩ = some u
 | 0, _ => fun j u h => by cases h
 | n+1, hp => fun j u h => by
  obtain ⟨h1, h2, h3, h4, h5⟩ := hp n (by omega)
  rcases markCells_last h with h | ⟨rfl, rfl⟩ | ⟨rfl, rfl⟩ | ⟨rfl, rfl⟩ | ⟨rfl, rfl⟩ | ⟨rfl, rfl⟩
  ·exact markCells_get (n := n) (fun i hi => hp i (by omega)) j u h
  ·exact h1
  ·exact h2
  ·exact h3
  ·exact h4
  ·exact h5
theorem markCells_one (f : Nat → Int × Int × Int × Int × Int) : ∀ n, ∀ u ∈ markCells f n, u.oneCell' = true
 | 0 => fun u h => by cases h
 | n+1 => fun u h => by
  unfold markCells at h
  rcases List.mem_append.1 h with h | h
  ·exact markCells_one f n u h
  ·simp only [List.mem_cons, List.not_mem_nil, or_false] at h
   rcases h with rfl | rfl | rfl | rfl | rfl <;> rfl
theorem markCells_congr {f g : Nat → Int × Int × Int × Int × Int} : ∀ {n : Nat}, (∀ i, i < n → f i = g i) → markCells f n = markCells g n
 | 0, _ => rfl
 | n+1, h => by unfold markCells; rw [markCells_congr (n := n) fun i hi => h i (by omega), h n (by omega)]
theorem AAt.set0 {W : World} {A : Nat} {c0 c1 w0 w1 : Int} {v : Value} (h : AAt W A c0 c1 w0 w1 v) (u : Int) : AAt (W.setCell ⟨A, 0, none⟩ (.int .i64 u)) A u c1 w0 w1 v := by
 refine ⟨?_, ?_, ?_, ?_, ?_, ?_, ?_, ?_, ?_, ?_⟩
 ·exact World.cell?_setCell_same' _ _ _ (by rw [h.k0]; rfl)
 ·rw [World.cell?_setCell_other W _ (a := ⟨A, 0, none⟩) (b := ⟨A, 1, none⟩) (by intro h; cases h)]; exact h.k1
 ·rw [World.cell?_setCell_other W _ (a := ⟨A, 0, none⟩) (b := ⟨A, 2, none⟩) (by intro h; cases h)]; exact h.k2
 ·rw [World.cell?_setCell_other W _ (a := ⟨A, 0, none⟩) (b := ⟨A, 3, none⟩) (by intro h; cases h)]; exact h.k3
 ·rw [World.cell?_setCell_other W _ (a := ⟨A, 0, none⟩) (b := ⟨A, 4, none⟩) (by intro h; cases h)]; exact h.k4
 all_goals rw [World.frozen?_setCell]
 ·exact h.f0
 ·exact h.f1
 ·exact h.f2
 ·exact h.f3
 ·exact h.f4
theorem undMk : Tryz.prog.underlying 118 = some (.slice 126) := by kernel_rfl
/-- marks are copied: append to nil. -/
theorem step_marks {ops : Array Oper} (w : World) {o : Oper} {a : Act} {K : Act → World → Prop} {Q : Exit → Act → World → Prop} {D : Prop} (hgd : o.guard = none) (s x : Operand) (ho : o.op = .call { callee := .builtin .append, args := #[s, x], argTypes := #[118, 118] })
  (hs : a.eval s = .slice none 0 0) (ra : Option Addr) (n rc : Nat) (f : Nat → Int × Int × Int × Int × Int) (hx : a.eval x = .slice ra n rc) (hr : MkSl w (.slice ra n rc) n f) (hn : n ≤ 1000)
  (h : ∀ v w', w'.ownsRow w.heap.size 126 5 v n (markCells f n) → Below w.heap.size w w' → K (a.put o.dst v) w') : if Region.wanted o (yielded ops a.tmps) = true then Oper.wp Tryz.prog o a w K Q else D := by
 rw [if_pos (show Region.wanted o (yielded ops a.tmps) = true by simp [Region.wanted, hgd])]
 obtain ⟨i0, hi, hz0, hz1, hz2⟩ := info_parts Tryz.info126
 have hnil : w.ownsRow w.heap.size 126 5 (.slice none 0 0) 0 [] := ⟨rfl, .inl ⟨rfl, rfl⟩⟩
 obtain ⟨a', c', e, hr⟩ := hr
 cases e
 rcases Nat.eq_zero_or_pos n with h0 | h0
 ·subst h0
  have hk := h (.slice none 0 0) w hnil (Below.refl _ _)
  unfold Oper.wp
  simp [execOp, ho, resolve, invoke, builtin, hs, hx, Result.andThen]
  have hu := undMk
  simp [Builtin.append_, hu, hi, hz0, hz1, hz2, go_sem]
  cases ra <;> simp [go_sem] <;> exact hk
 ·obtain ⟨b, off, rfl, hb, hp⟩ := hr h0
  have hnw : ∀ j u, (markCells f n)[j]? = some u → w.cell? ((⟨b, off, none⟩ : Addr).add j) = some u := fun j u hj => by
   have h3 := markCells_get hp j u hj
   by_cases hj0 : j = 0
   ·subst hj0; simpa [Addr.add] using h3
   ·simpa [Addr.add, hj0] using h3
  refine wp_append_own w s x 118 ho w.heap.size 126 i0 Mach.zmark 5 40 undMk hi hz0 hz1 hz2 rfl (by decide) _ 0 [] hs hnil ⟨b, off, none⟩ n rc (markCells f n) hx (markCells_len f n) hnw (markCells_one f n) (by unfold maxLen; omega) (by omega) (Nat.le_refl _) fun v w' h1 h2 _ => h v w' (by rw [Nat.zero_add] at h1; exact h1) ⟨h2.os, h2.tape, h2.output, h2.size, fun i hi => h2.block i hi (by intro e; cases e)⟩
/-- one mark more. -/
theorem wp_mark (w : World) {o : Oper} {a : Act} {K : Act → World → Prop} {Q : Exit → Act → World → Prop} (s x : Operand) (ho : o.op = .call { callee := .builtin .append, args := #[s, x], argTypes := #[118, 118] })
  (base : Nat) (v : Value) (n : Nat) (f : Nat → Int × Int × Int × Int × Int) (hs : a.eval s = v) (hown : w.ownsRow base 126 5 v n (markCells f n)) (hn : n ≤ 1000) (gb : Nat) (b x0 x1 y0 y1 : Int) (hx : a.eval x = .slice (some ⟨gb, 0, none⟩) 1 1)
  (c0 : w.cell? ⟨gb, 0, none⟩ = some (.int .i64 b)) (c1 : w.cell? ⟨gb, 1, none⟩ = some (.int .i64 x0)) (c2 : w.cell? ⟨gb, 2, none⟩ = some (.int .i64 x1)) (c3 : w.cell? ⟨gb, 3, none⟩ = some (.int .i64 y0)) (c4 : w.cell? ⟨gb, 4, none⟩ = some (.int .i64 y1)) (hbase : base ≤ w.heap.size)
  (h : ∀ g c w', w'.ownsRow base 126 5 (.slice (some ⟨g, 0, none⟩) (n + 1) c) (n + 1) (markCells (fun i => if i = n then (b, x0, x1, y0, y1) else f i) (n + 1)) → Below base w w' → K (a.put o.dst (.slice (some ⟨g, 0, none⟩) (n + 1) c)) w') :
  Oper.wp Tryz.prog o a w K Q := by
 obtain ⟨i0, hi, hz0, hz1, hz2⟩ := info_parts Tryz.info126
 refine wp_append_own w s x 118 ho base 126 i0 Mach.zmark 5 40 undMk hi hz0 hz1 hz2 rfl (by decide) v n _ hs hown ⟨gb, 0, none⟩ 1 1 [.int .i64 b, .int .i64 x0, .int .i64 x1, .int .i64 y0, .int .i64 y1] hx rfl (fun j u hj => ?_) (by simp [Value.oneCell']) (by unfold maxLen; omega) (by omega) hbase fun v' w' h1 h2 _ => ?_
 ·match j, hj with
  | 0, hj => cases hj; exact c0
  | 1, hj => cases hj; exact c1
  | 2, hj => cases hj; exact c2
  | 3, hj => cases hj; exact c3
  | 4, hj => cases hj; exact c4
  | j+5, hj => cases hj
 ·obtain ⟨g, c, rfl⟩ := ownsRow_pos (by omega) h1
  refine h g c w' ?_ ((Below.refl _ _).grown h2 hbase fun j hj => (hown.lt j hj).1)
  have e : markCells (fun i => if i = n then (b, x0, x1, y0, y1) else f i) (n + 1) = markCells f n ++ [.int .i64 b, .int .i64 x0, .int .i64 x1, .int .i64 y0, .int .i64 y1] := by
   conv => lhs; unfold markCells
   rw [markCells_congr (g := f) (n := n) fun i hi => by rw [if_neg (by omega)]]
   simp
  rw [e]; exact h1
theorem step_mark {ops : Array Oper} (w : World) {o : Oper} {a : Act} {K : Act → World → Prop} {Q : Exit → Act → World → Prop} {D : Prop} (hgd : o.guard = none) (s x : Operand) (ho : o.op = .call { callee := .builtin .append, args := #[s, x], argTypes := #[118, 118] })
  (base : Nat) (v : Value) (n : Nat) (f : Nat → Int × Int × Int × Int × Int) (hs : a.eval s = v) (hown : w.ownsRow base 126 5 v n (markCells f n)) (hn : n ≤ 1000) (gb : Nat) (b x0 x1 y0 y1 : Int) (hx : a.eval x = .slice (some ⟨gb, 0, none⟩) 1 1)
  (c0 : w.cell? ⟨gb, 0, none⟩ = some (.int .i64 b)) (c1 : w.cell? ⟨gb, 1, none⟩ = some (.int .i64 x0)) (c2 : w.cell? ⟨gb, 2, none⟩ = some (.int .i64 x1)) (c3 : w.cell? ⟨gb, 3, none⟩ = some (.int .i64 y0)) (c4 : w.cell? ⟨gb, 4, none⟩ = some (.int .i64 y1)) (hbase : base ≤ w.heap.size)
  (h : ∀ g c w', w'.ownsRow base 126 5 (.slice (some ⟨g, 0, none⟩) (n + 1) c) (n + 1) (markCells (fun i => if i = n then (b, x0, x1, y0, y1) else f i) (n + 1)) → Below base w w' → K (a.put o.dst (.slice (some ⟨g, 0, none⟩) (n + 1) c)) w') :
  if Region.wanted o (yielded ops a.tmps) = true then Oper.wp Tryz.prog o a w K Q else D := by
 rw [if_pos (show Region.wanted o (yielded ops a.tmps) = true by simp [Region.wanted, hgd])]
 exact wp_mark w s x ho base v n f hs hown hn gb b x0 x1 y0 y1 hx c0 c1 c2 c3 c4 hbase h
theorem wpList_mark {ops : Array Oper} {rest : List Oper} (w : World) {o : Oper} {a : Act} {Q : Exit → Act → World → Prop} (hgd : o.guard = none) (s x : Operand) (ho : o.op = .call { callee := .builtin .append, args := #[s, x], argTypes := #[118, 118] })
  (base : Nat) (v : Value) (n : Nat) (f : Nat → Int × Int × Int × Int × Int) (hs : a.eval s = v) (hown : w.ownsRow base 126 5 v n (markCells f n)) (hn : n ≤ 1000) (gb : Nat) (b x0 x1 y0 y1 : Int) (hx : a.eval x = .slice (some ⟨gb, 0, none⟩) 1 1)
  (c0 : w.cell? ⟨gb, 0, none⟩ = some (.int .i64 b)) (c1 : w.cell? ⟨gb, 1, none⟩ = some (.int .i64 x0)) (c2 : w.cell? ⟨gb, 2, none⟩ = some (.int .i64 x1)) (c3 : w.cell? ⟨gb, 3, none⟩ = some (.int .i64 y0)) (c4 : w.cell? ⟨gb, 4, none⟩ = some (.int .i64 y1)) (hbase : base ≤ w.heap.size)
  (h : ∀ g c w', w'.ownsRow base 126 5 (.slice (some ⟨g, 0, none⟩) (n + 1) c) (n + 1) (markCells (fun i => if i = n then (b, x0, x1, y0, y1) else f i) (n + 1)) → Below base w w' → wpList Tryz.prog ops Q rest (a.put o.dst (.slice (some ⟨g, 0, none⟩) (n + 1) c)) w') :
  wpList Tryz.prog ops Q (o :: rest) a w :=
 wpList_plain hgd fun _ hK => wp_mark w s x ho base v n f hs hown hn gb b x0 x1 y0 y1 hx c0 c1 c2 c3 c4 hbase fun g c w' h2 h3 => hK _ _ (h g c w' h2 h3)
set_option maxRecDepth 100000 in
set_option maxHeartbeats 2000000 in
theorem rwith_any (la : Option Addr) (n lc : Nat) (f : Nat → Int × Int × Int × Int × Int) (k0 x0 x1 y0 y1 k : Int) (w : World) (hl : MkSl w (.slice la n lc) n f) (hn : n ≤ 1000) :
  Calls Tryz.prog 62 #[.slice la n lc, .agg #[.int .i64 k0, .int .i64 x0, .int .i64 x1, .int .i64 y0, .int .i64 y1], .int .i64 k] w fun e w' => ∃ v, e = .returned v ∧ MkSl w' v (n + 1) (fun i => if i = n then (k, x0, x1, y0, y1) else f i) ∧ Below w.heap.size w w' := by
 have hA0 : AAt ((w.alloc (Obj.cells #[.int .i64 k0, .int .i64 x0, .int .i64 x1, .int .i64 y0, .int .i64 y1] 126)).setCell ⟨w.heap.size, 0, none⟩ (.int .i64 k)) w.heap.size k x0 x1 y0 (.int .i64 y1) := (AAt.new w _ k0 x0 x1 y0 (.int .i64 y1)).set0 k
 have hB0 : Below w.heap.size w ((w.alloc (Obj.cells #[.int .i64 k0, .int .i64 x0, .int .i64 x1, .int .i64 y0, .int .i64 y1] 126)).setCell ⟨w.heap.size, 0, none⟩ (.int .i64 k)) := ((Below.refl _ _).alloc (Nat.le_refl _) _).setCell (p := ⟨w.heap.size, 0, none⟩) (Nat.le_refl _) _
 have hlt0 : w.heap.size < ((w.alloc (Obj.cells #[.int .i64 k0, .int .i64 x0, .int .i64 x1, .int .i64 y0, .int .i64 y1] 126)).setCell ⟨w.heap.size, 0, none⟩ (.int .i64 k)).heap.size := by rw [World.size_setCell, World.size_alloc]; omega
 obtain ⟨W0, hW0⟩ : ∃ W0, (w.alloc (Obj.cells #[.int .i64 k0, .int .i64 x0, .int .i64 x1, .int .i64 y0, .int .i64 y1] 126)).setCell ⟨w.heap.size, 0, none⟩ (.int .i64 k) = W0 := ⟨_, rfl⟩
 rw [hW0] at hA0 hB0 hlt0
 go_enter Tryz.func62, Tryz.ntmps62
 go_wp2_with fail
 refine wp_region_late [] (fun w9 => Below w.heap.size w w9 ∧ AAt w9 w.heap.size k x0 x1 y0 (.int .i64 y1) ∧ w.heap.size < w9.heap.size) (fun w9 => True) (by kernel_rfl) ?_ (fun hHeld => ?_)
 ·(exact ⟨⟨hB0.drew, hA0.below (Below.refl _ _).drew hlt0, hlt0⟩, trivial⟩)
 generalize W0.drew = V at hHeld ⊢
 refine tk1 0 rfl hHeld ?_
 refine tk2 2 rfl (by (intro w9 hSw; have z0 := hSw.2.1.k0; have z1 := hSw.2.1.k1; have z2 := hSw.2.1.k2; have z3 := hSw.2.1.k3; have z4 := hSw.2.1.k4; clear hSw; go_simp) <;> with_reducible rfl) hHeld ?_
 refine wpAnyP_ready (rs := [1, 3]) (by kernel_rfl) (by simp) ?_
 refine AllReadyP.cons (o := _) rfl (fun K hK => ?_) (AllReadyP.cons (o := _) rfl (fun K hK => ?_) AllReadyP.nil)
 ·refine step_marks _ rfl _ _ rfl rfl la n lc f rfl (hl.below hHeld.1.1) hn ?_
  intro v1 w1 hr1 hb1
  have hz1 := hHeld.1.1.size
  have hr2 := hr1.mono (base' := w.heap.size + 1) (by first | exact Nat.le_of_lt hHeld.1.2.2 | exact hHeld.1.2.2)
  refine hK.out _ _ ?_ (fun hHeld => ?_)
  ·(exact ⟨⟨hHeld.1.1.trans (hb1.mono hHeld.1.1.size), hHeld.1.2.1.below hb1 hHeld.1.2.2, Nat.lt_of_lt_of_le hHeld.1.2.2 hb1.size⟩, trivial⟩)
  clear hK K
  (try simp only [Act.put, pA, pZ, pS])
  refine rd1 3 rfl (fun K hK => ?_)
  go_simp
  have hn5 := AAt.new w1 126 k x0 x1 y0 (.int .i64 y1)
  replace hr2 := ownsRow_below hr2 ((Below.refl w1.heap.size w1).alloc (Nat.le_refl _) (Obj.cells #[.int .i64 k, .int .i64 x0, .int .i64 x1, .int .i64 y0, .int .i64 y1] 126))
  refine hK.out _ _ ?_ (fun hHeld => ?_)
  ·(exact ⟨⟨hHeld.1.1.alloc hHeld.1.1.size _, hHeld.1.2.1.below ((Below.refl _ _).alloc (Nat.le_refl _) _) hHeld.1.2.2, by rw [World.size_alloc]; have := hHeld.1.2.2; omega⟩, trivial⟩)
  clear hK K
  (try simp only [Act.put, pA, pZ, pS])
  refine rd1 4 rfl (fun K hK => ?_)
  refine step_mark _ rfl _ _ rfl (w.heap.size + 1) v1 n f rfl hr2 hn _ k x0 x1 y0 y1 rfl hn5.k0 hn5.k1 hn5.k2 hn5.k3 hn5.k4 hHeld.1.2.2 ?_
  intro g c w3 hr3 hb3
  refine hK.out _ _ ?_ (fun hHeld => ?_)
  ·(exact ⟨⟨hHeld.1.1.trans (hb3.mono (Nat.le_succ _)), hHeld.1.2.1.below hb3 (Nat.lt_succ_self _), Nat.lt_of_lt_of_le hHeld.1.2.2 hb3.size⟩, trivial⟩)
  clear hK K
  (try simp only [Act.put, pA, pZ, pS])
  refine tk1 5 rfl hHeld ?_
  refine wpAnyP_done (by kernel_rfl) ?_ _
  (try simp only [Act.put, List.getElem_toArray, List.getElem_cons_zero, List.getElem_cons_succ, pA, pZ, pS])
  have hO9 := hHeld.1.1
  clear hHeld
  go_wp2
  go_ret
  exact ⟨_, rfl, own_marks hr3, hO9⟩
 ·go_simp
  have hn5 := AAt.new V 126 k x0 x1 y0 (.int .i64 y1)
  refine hK.out _ _ ?_ (fun hHeld => ?_)
  ·(exact ⟨⟨hHeld.1.1.alloc hHeld.1.1.size _, hHeld.1.2.1.below ((Below.refl _ _).alloc (Nat.le_refl _) _) hHeld.1.2.2, by rw [World.size_alloc]; have := hHeld.1.2.2; omega⟩, trivial⟩)
  clear hK K
  (try simp only [Act.put, pA, pZ, pS])
  refine rd1 1 rfl (fun K hK => ?_)
  refine step_marks _ rfl _ _ rfl rfl la n lc f rfl (hl.below hHeld.1.1) hn ?_
  intro v1 w1 hr1 hb1
  have hz1 := hHeld.1.1.size
  have hr2 := hr1.mono (base' := w.heap.size + 1) (by first | exact Nat.le_of_lt hHeld.1.2.2 | exact hHeld.1.2.2)
  replace hn5 := hn5.below hb1 (by rw [World.size_alloc]; omega)
  refine hK.out _ _ ?_ (fun hHeld => ?_)
  ·(exact ⟨⟨hHeld.1.1.trans (hb1.mono hHeld.1.1.size), hHeld.1.2.1.below hb1 hHeld.1.2.2, Nat.lt_of_lt_of_le hHeld.1.2.2 hb1.size⟩, trivial⟩)
  clear hK K
  (try simp only [Act.put, pA, pZ, pS])
  refine rd1 4 rfl (fun K hK => ?_)
  refine step_mark _ rfl _ _ rfl (w.heap.size + 1) v1 n f rfl hr2 hn _ k x0 x1 y0 y1 rfl hn5.k0 hn5.k1 hn5.k2 hn5.k3 hn5.k4 hHeld.1.2.2 ?_
  intro g c w3 hr3 hb3
  refine hK.out _ _ ?_ (fun hHeld => ?_)
  ·(exact ⟨⟨hHeld.1.1.trans (hb3.mono (Nat.le_succ _)), hHeld.1.2.1.below hb3 (Nat.lt_succ_self _), Nat.lt_of_lt_of_le hHeld.1.2.2 hb3.size⟩, trivial⟩)
  clear hK K
  (try simp only [Act.put, pA, pZ, pS])
  refine tk1 5 rfl hHeld ?_
  refine wpAnyP_done (by kernel_rfl) ?_ _
  (try simp only [Act.put, List.getElem_toArray, List.getElem_cons_zero, List.getElem_cons_succ, pA, pZ, pS])
  have hO9 := hHeld.1.1
  clear hHeld
  go_wp2
  go_ret
  exact ⟨_, rfl, own_marks hr3, hO9⟩
end Go.Proofs.YtjhpklolpmaopaaGreatDoor
/-- a point between two ends each. -/
def Go.Proofs.InBox (x0 x1 y0 y1 x y : Int) : Prop := x0 ≤ x ∧ x ≤ x1 ∧ y0 ≤ y ∧ y ≤ y1
namespace Go.Proofs
/-- what is known of all points of a box: 3 surely, 1 never, 2 perhaps. -/
def IsWord (Q : Int → Int → Bool) (x0 x1 y0 y1 v : Int) : Prop :=
 (v = 3 ∧ ∀ x y, InBox x0 x1 y0 y1 x y → Q x y = true) ∨
 (v = 1 ∧ (∃ x y, InBox x0 x1 y0 y1 x y ∧ Q x y = false) ∧ ∀ x y, InBox x0 x1 y0 y1 x y → Q x y = false) ∨
 (v = 2 ∧ (∃ x y, InBox x0 x1 y0 y1 x y ∧ Q x y = true) ∧ ∃ x y, InBox x0 x1 y0 y1 x y ∧ Q x y = false)
theorem box_not_all {S : Int → Int → Prop} {Q : Int → Int → Bool} {b : Bool} (h : ¬ ∀ x y, S x y → Q x y = b) : ∃ x y, S x y ∧ Q x y = !b :=
 Classical.byContradiction fun hn => h fun x y hs => Classical.byContradiction fun hq => hn ⟨x, y, hs, by cases hb : Q x y <;> cases b <;> simp_all⟩
theorem IsWord.ex (Q : Int → Int → Bool) (x0 x1 y0 y1 : Int) : ∃ v, IsWord Q x0 x1 y0 y1 v := by
 by_cases h : ∀ x y, InBox x0 x1 y0 y1 x y → Q x y = true
 ·exact ⟨3, .inl ⟨rfl, h⟩⟩
 ·have h1 := box_not_all h
  by_cases h2 : ∀ x y, InBox x0 x1 y0 y1 x y → Q x y = false
  ·exact ⟨1, .inr (.inl ⟨rfl, h1, h2⟩)⟩
  ·exact ⟨2, .inr (.inr ⟨rfl, box_not_all h2, h1⟩)⟩
theorem IsWord.same {Q : Int → Int → Bool} {x0 x1 y0 y1 u v : Int} (h : IsWord Q x0 x1 y0 y1 u) (k : IsWord Q x0 x1 y0 y1 v) : u = v := by
 rcases h with ⟨rfl, h⟩ | ⟨rfl, ⟨a, b, h1, h2⟩, h⟩ | ⟨rfl, ⟨a, b, h1, h2⟩, ⟨c, d, h3, h4⟩⟩ <;>
 rcases k with ⟨rfl, k⟩ | ⟨rfl, ⟨a', b', k1, k2⟩, k⟩ | ⟨rfl, ⟨a', b', k1, k2⟩, ⟨c', d', k3, k4⟩⟩
 ·rfl
 ·rw [h _ _ k1] at k2; cases k2
 ·rw [h _ _ k3] at k4; cases k4
 ·rw [k _ _ h1] at h2; cases h2
 ·rfl
 ·rw [h _ _ k1] at k2; cases k2
 ·rw [k _ _ h3] at h4; cases h4
 ·rw [k _ _ h1] at h2; cases h2
 ·rfl
theorem IsWord.range {Q : Int → Int → Bool} {x0 x1 y0 y1 v : Int} (h : IsWord Q x0 x1 y0 y1 v) : v = 1 ∨ v = 2 ∨ v = 3 := by
 rcases h with ⟨h, _⟩ | ⟨h, _⟩ | ⟨h, _⟩ <;> omega
theorem IsWord.surely {Q : Int → Int → Bool} {x0 x1 y0 y1 v : Int} (h : IsWord Q x0 x1 y0 y1 v) : v = 3 ↔ ∀ x y, InBox x0 x1 y0 y1 x y → Q x y = true := by
 rcases h with ⟨rfl, h⟩ | ⟨rfl, ⟨a, b, h1, h2⟩, h⟩ | ⟨rfl, _, ⟨a, b, h1, h2⟩⟩
 ·exact ⟨fun _ => h, fun _ => rfl⟩
 all_goals
  exact ⟨fun h => absurd h (by decide), fun k => by rw [k _ _ h1] at h2; cases h2⟩
/-- how many of some points do, and how many there are. -/
structure Cnt (Q : Int → Int → Bool) (S : Int → Int → Prop) (good all : Int) : Prop where
 lo : 0 ≤ good
 le : good ≤ all
 ga : good = all ↔ ∀ x y, S x y → Q x y = true
 gn : good = 0 ↔ ∀ x y, S x y → Q x y = false
theorem Cnt.none {Q : Int → Int → Bool} {S : Int → Int → Prop} (h : ∀ x y, ¬ S x y) : Cnt Q S 0 0 :=
 ⟨by omega, by omega, ⟨fun _ x y hs => absurd hs (h x y), fun _ => rfl⟩, ⟨fun _ x y hs => absurd hs (h x y), fun _ => rfl⟩⟩
theorem Cnt.congr {Q : Int → Int → Bool} {S S' : Int → Int → Prop} {g n : Int} (h : Cnt Q S g n) (hs : ∀ x y, S' x y ↔ S x y) : Cnt Q S' g n :=
 ⟨h.lo, h.le, by rw [h.ga]; exact ⟨fun k x y hx => k x y ((hs x y).1 hx), fun k x y hx => k x y ((hs x y).2 hx)⟩, by rw [h.gn]; exact ⟨fun k x y hx => k x y ((hs x y).1 hx), fun k x y hx => k x y ((hs x y).2 hx)⟩⟩
theorem Cnt.yes {Q : Int → Int → Bool} {S S' : Int → Int → Prop} {g n a b : Int} (h : Cnt Q S g n) (hs : ∀ x y, S' x y ↔ S x y ∨ (x = a ∧ y = b)) (hq : Q a b = true) : Cnt Q S' (g + 1) (n + 1) := by
 obtain ⟨h1, h2, h3, h4⟩ := h
 refine ⟨by omega, by omega, ⟨fun e x y hx => ?_, fun k => ?_⟩, ⟨fun e => by omega, fun k => ?_⟩⟩
 ·rcases (hs x y).1 hx with hx | ⟨rfl, rfl⟩
  ·exact h3.1 (by omega) x y hx
  ·exact hq
 ·have := h3.2 fun x y hx => k x y ((hs x y).2 (.inl hx))
  omega
 ·have := k a b ((hs a b).2 (.inr ⟨rfl, rfl⟩))
  rw [hq] at this; cases this
theorem Cnt.no {Q : Int → Int → Bool} {S S' : Int → Int → Prop} {g n a b : Int} (h : Cnt Q S g n) (hs : ∀ x y, S' x y ↔ S x y ∨ (x = a ∧ y = b)) (hq : Q a b = false) : Cnt Q S' g (n + 1) := by
 obtain ⟨h1, h2, h3, h4⟩ := h
 refine ⟨by omega, by omega, ⟨fun e x y hx => by omega, fun k => ?_⟩, ⟨fun e x y hx => ?_, fun k => h4.2 fun x y hx => k x y ((hs x y).2 (.inl hx))⟩⟩
 ·have := k a b ((hs a b).2 (.inr ⟨rfl, rfl⟩))
  rw [hq] at this; cases this
 ·rcases (hs x y).1 hx with hx | ⟨rfl, rfl⟩
  ·exact h4.1 e x y hx
  ·exact hq
/-- the points of a box that come before some one, row by row. -/
def Seen (x0 y0 y1 a b x y : Int) : Prop := x0 ≤ x ∧ y0 ≤ y ∧ y ≤ y1 ∧ (x < a ∨ x = a ∧ y < b)
theorem Seen.start {x0 y0 y1 x y : Int} : ¬ Seen x0 y0 y1 x0 y0 x y := by unfold Seen; omega
theorem Seen.step {x0 y0 y1 a b : Int} (ha : x0 ≤ a) (hb : y0 ≤ b) (hb1 : b ≤ y1) (x y : Int) : Seen x0 y0 y1 a (b + 1) x y ↔ Seen x0 y0 y1 a b x y ∨ (x = a ∧ y = b) := by unfold Seen; omega
theorem Seen.row {x0 y0 y1 a b : Int} (hb : y1 < b) (x y : Int) : Seen x0 y0 y1 (a + 1) y0 x y ↔ Seen x0 y0 y1 a b x y := by unfold Seen; omega
theorem Seen.all {x0 x1 y0 y1 a : Int} (ha : x1 + 1 = a ∨ (x1 < x0 ∧ a = x0)) (x y : Int) : InBox x0 x1 y0 y1 x y ↔ Seen x0 y0 y1 a y0 x y := by unfold Seen InBox; omega
/-- the number up to which all are sure. -/
def IsGauge (W : Nat → Int) (n : Nat) : Prop := n ≤ 12 ∧ (∀ k, k < n → W (k + 1) = 3) ∧ (n < 12 → W (n + 1) ≠ 3)
theorem IsGauge.same {W : Nat → Int} {n m : Nat} (h : IsGauge W n) (k : IsGauge W m) : n = m := by
 obtain ⟨h1, h2, h3⟩ := h
 obtain ⟨k1, k2, k3⟩ := k
 rcases Nat.lt_trichotomy n m with hl | rfl | hl
 ·exact absurd (k2 n hl) (h3 (by omega))
 ·rfl
 ·exact absurd (h2 m hl) (k3 (by omega))
theorem IsGauge.ex (W : Nat → Int) : ∃ n, IsGauge W n := by
 have key : ∀ d n, n + d = 12 → (∀ k, k < n → W (k + 1) = 3) → ∃ m, IsGauge W m := by
  intro d
  induction d with
  | zero => intro n hn hk; exact ⟨n, by omega, hk, fun h => by omega⟩
  | succ d ih =>
   intro n hn hk
   by_cases h : W (n + 1) = 3
   ·refine ih (n + 1) (by omega) fun k hlt => ?_
    rcases Nat.lt_succ_iff_lt_or_eq.1 hlt with h1 | rfl
    ·exact hk k h1
    ·exact h
   ·exact ⟨n, by omega, hk, fun _ => h⟩
 exact key 12 0 rfl fun k hk => absurd hk (Nat.not_lt_zero _)
end Go.Proofs
namespace Go.Proofs
open Go.Maps Go.WideElems Go.ChangeMaps Go.MapKept Go.RowKit
/-- a point as a map's key. -/
abbrev ptV (x y : Int) : Value := .agg #[.int .i64 x, .int .i64 y]
/-- what a type of maps from points to bools has. -/
structure PtMap (P : Program) (t k e : TypeId) : Prop where
 K : Keyed P k
 ht : P.underlying t = some (.map k e)
 he : P.underlying e = some .bool
 hz : ∀ w, (zeroValue e).run P w = .ok (.bool false) w
 key : ∀ x y : Int, (Lit.int .i64 x).wf = true → (Lit.int .i64 y).wf = true → ∃ kl, keyOf P k (ptV x y) = some kl
/-- a map of at most so many entries, each of which says of a point what Q says. -/
def GoodMap (P : Program) (k e : TypeId) (w : World) (b n : Nat) (Q : Int → Int → Bool) : Prop :=
 ∃ es clock, w.heap[b]? = some (.map es clock) ∧ Fit P k (plainElem (H := Unit) P e) es clock ∧ es.size ≤ n ∧ ∀ x ∈ es.toList, ∃ a c : Int, x.key = ptV a c ∧ x.val = .bool (Q a c)
variable {P : Program} {t k e : TypeId} {w : World} {b n : Nat} {Q : Int → Int → Bool}
theorem GoodMap.made (P : Program) (k e : TypeId) (Q : Int → Int → Bool) (w : World) : GoodMap P k e (w.alloc (.map #[] 0)) w.heap.size 0 Q :=
 ⟨#[], 0, (MapKept.heap_alloc w _).1, ⟨by simp, stamped_empty 0, by simp⟩, Nat.le_refl _, by simp⟩
theorem GoodMap.lt (h : GoodMap P k e w b n Q) : b < w.heap.size := by
 obtain ⟨es, clock, hb, _⟩ := h
 exact (Array.getElem?_eq_some_iff.1 hb).1
theorem GoodMap.far {w' : World} (h : GoodMap P k e w b n Q) (hh : w'.heap[b]? = w.heap[b]?) : GoodMap P k e w' b n Q := by
 obtain ⟨es, clock, hb, r⟩ := h
 exact ⟨es, clock, hh.trans hb, r⟩
theorem GoodMap.kept {w' : World} {row : Option Nat} (h : GoodMap P k e w b n Q) (hg : w.grownBy w' row) (hne : some b ≠ row) : GoodMap P k e w' b n Q := h.far (hg.block b h.lt hne)
theorem GoodMap.below {w' : World} {B : Nat} (h : GoodMap P k e w b n Q) (hb : Below B w w') (hl : b < B) : GoodMap P k e w' b n Q := h.far (hb.block b hl)
theorem GoodMap.mono {m : Nat} (h : GoodMap P k e w b n Q) (hm : n ≤ m) : GoodMap P k e w b m Q := by
 obtain ⟨es, clock, h1, h2, h3, h4⟩ := h
 exact ⟨es, clock, h1, h2, Nat.le_trans h3 hm, h4⟩
theorem GoodMap.look (hp : PtMap P t k e) (h : GoodMap P k e w b n Q) {x y : Int} (hx : (Lit.int .i64 x).wf = true) (hy : (Lit.int .i64 y).wf = true) :
  ∃ f : Bool, (Instr.lookup t (.map (some b)) (ptV x y) true).run P w = .ok (.tuple #[.bool (f && Q x y), .bool f]) w := by
 obtain ⟨es, clock, hb, F, _, hall⟩ := h
 obtain ⟨kl, hkey⟩ := hp.key x y hx hy
 rcases Maps.fit_look true hp.K hp.ht (hp.hz w) hb F hkey with ⟨hrun, _⟩ | ⟨e0, y0, hm, hk0, hrun, _⟩
 ·exact ⟨false, hrun⟩
 ·obtain ⟨a, c, h1, h2⟩ := hall e0 hm
  rw [hk0] at h1
  cases h1
  exact ⟨true, by rw [hrun, h2]; rfl⟩
theorem GoodMap.store (hp : PtMap P t k e) (h : GoodMap P k e w b n Q) (hn : n < maxLen) {x y : Int} (hx : (Lit.int .i64 x).wf = true) (hy : (Lit.int .i64 y).wf = true) :
  ∃ w', (Instr.mapUpdate t (.map (some b)) (ptV x y) (.bool (Q x y))).run P w = .ok () w' ∧ GoodMap P k e w' b (n + 1) Q ∧ w.grownBy w' (some b) := by
 obtain ⟨es, clock, hb, F, hs, hall⟩ := h
 obtain ⟨kl, hkey⟩ := hp.key x y hx hy
 obtain ⟨es', clock', hrun, F', hput, _, _, hwho⟩ := Maps.fit_store (R' := plainElem (H := Unit) P e) hp.K hp.ht hb F (Nat.lt_of_le_of_lt hs hn) (fun _ _ _ _ hz => hz) hkey (plainElem_bool hp.he (Q x y))
 refine ⟨_, hrun, ⟨es', clock', heap_setBlock_same hb _, F', ?_, ?_⟩, ⟨rfl, rfl, rfl, by simp [setBlock], fun i _ hi => heap_setBlock_other hb _ (fun e => hi (by rw [e]))⟩⟩
 ·have e1 : es'.size = ((es'.toList.map (rg P k (plainElem (H := Unit) P e))).foldr DataW.insert []).length := by rw [length_sorted]; simp
  rw [e1, hput]
  unfold putKey
  rw [length_insert]
  have e2 := List.length_filter_le (notKey kl) ((es.toList.map (rg P k (plainElem (H := Unit) P e))).foldr DataW.insert [])
  rw [length_sorted] at e2
  simp at e2
  omega
 ·intro x' hx'
  rcases hwho x' hx' with ⟨h1, _⟩ | ⟨h1, h2⟩
  ·exact hall x' h1
  ·exact ⟨x, y, h1, h2⟩
/-- the look-up with ok at its operation. -/
theorem wpList_lookup_good {ops : Array Oper} {rest : List Oper} {o : Oper} {a : Act} {R : Exit → Act → World → Prop} (w : World)
  (hg : o.guard = none) (m x : Operand) (t : TypeId) (hop : o.op = Op.lookup t m x true) (hp : PtMap P t k e)
  (hm : a.eval m = .map (some b)) (h : GoodMap P k e w b n Q) (px py : Int) (hx : a.eval x = ptV px py) (wx : (Lit.int .i64 px).wf = true) (wy : (Lit.int .i64 py).wf = true)
  (hK : ∀ f : Bool, wpList P ops R rest (a.put o.dst (.tuple #[.bool (f && Q px py), .bool f])) w) : wpList P ops R (o :: rest) a w := by
 refine wpList_plain hg fun K' hK' => ?_
 obtain ⟨f, hrun⟩ := h.look hp wx wy
 unfold Oper.wp
 simp [execOp, hop, hm, hx, hrun, Result.andThen]
 exact hK' _ _ (hK f)
/-- the store at its operation. -/
theorem wpList_mapUpdate_good {ops : Array Oper} {rest : List Oper} {o : Oper} {a : Act} {R : Exit → Act → World → Prop} (w : World)
  (hg : o.guard = none) (m x v : Operand) (t : TypeId) (hop : o.op = Op.mapUpdate t m x v) (hp : PtMap P t k e)
  (hm : a.eval m = .map (some b)) (h : GoodMap P k e w b n Q) (hn : n < maxLen) (px py : Int) (hx : a.eval x = ptV px py) (hv : a.eval v = .bool (Q px py)) (wx : (Lit.int .i64 px).wf = true) (wy : (Lit.int .i64 py).wf = true)
  (hK : ∀ w', GoodMap P k e w' b (n + 1) Q → w.grownBy w' (some b) → wpList P ops R rest (a.put o.dst undef) w') : wpList P ops R (o :: rest) a w := by
 refine wpList_plain hg fun K' hK' => ?_
 obtain ⟨w', hrun, r1, r2⟩ := h.store hp hn wx wy
 unfold Oper.wp
 simp [execOp, hop, hm, hx, hv, hrun, Result.andThen]
 exact hK' _ _ (hK w' r1 r2)
end Go.Proofs
namespace Go.Proofs
open Go.Maps
/-- what a point reads as, as a key. -/
theorem ptKey_gen {P : Program} {k i : TypeId} {n0 n1 t0 t1 : String} {e0 e1 : Bool} {x0 x1 : String} {z0 z1 : Nat} (hu : P.underlying k = some (.struct #[⟨n0, i, 0, e0, t0, x0, z0⟩, ⟨n1, i, 1, e1, t1, x1, z1⟩])) (hi : P.underlying i = some (.int .i64)) (hn0 : n0 ≠ "_") (hn1 : n1 ≠ "_")
  (hc : P.cellsOf k = 2) (hc1 : P.cellsOf i = 1) (hk : P.keyType k = true) (hz : 0 < P.types.size) {x y : Int} (hx : (Lit.int .i64 x).wf = true) (hy : (Lit.int .i64 y).wf = true) :
  ∃ kl, keyOf P k (ptV x y) = some kl := by
 obtain ⟨d, hd⟩ : ∃ d, P.types.size = d + 1 := ⟨P.types.size - 1, by omega⟩
 refine ⟨.string (keyBytes [.int .i64 x, .int .i64 y]), ?_⟩
 simp [keyOf, hd, hk, hc, hc1, Program.keyLits, hu, hi, Value.formed, Value.cells, hx, hy, hn0, hn1]
end Go.Proofs
namespace Go.Proofs.YtjhpklolpmaopaaGreatDoor
open Go.RowKit Go.Maps
theorem laidOutM : laidOutB Tryz.prog = true := by kernel_rfl
theorem ptkU : (Tryz.prog.underlying 43) = some (.struct #[⟨"X", 3, 0, false, "", "", 0⟩, ⟨"Y", 3, 1, false, "", "", 8⟩]) := by kernel_rfl
theorem ptkS : 0 < Tryz.prog.types.size := of_decide_eq_true (by kernel_rfl)
theorem ptkK : Tryz.prog.keyType 43 = true := by kernel_rfl
theorem ptkC : Tryz.prog.cellsOf 43 = 2 := by kernel_rfl
theorem ptkI : Tryz.prog.cellsOf 3 = 1 := by kernel_rfl
theorem ptkR : (43 : TypeId) < Tryz.prog.types.size := of_decide_eq_true (by kernel_rfl)
theorem ptkA : Tryz.prog.keyTypeAt 2 43 = true := by kernel_rfl
theorem ptkZ (w : World) : (zeroValue 4).run Tryz.prog w = .ok (.bool false) w := by kernel_rfl
theorem ptm : PtMap Tryz.prog 101 43 4 where
 K := Keyed.of_law (deep_law_laid laidOutM (m := 2) (by omega) ptkR ptkA (by rw [ptkU]))
 ht := Tryz.underlying101
 he := Tryz.underlying4
 hz := ptkZ
 key := fun _ _ hx hy => ptKey_gen ptkU Tryz.underlying3 (by decide) (by decide) ptkC ptkI ptkK ptkS hx hy
end Go.Proofs.YtjhpklolpmaopaaGreatDoor
namespace Go.Proofs.YtjhpklolpmaopaaGreatDoor
open Go.RowKit
end Go.Proofs.YtjhpklolpmaopaaGreatDoor
namespace Go.Proofs.YtjhpklolpmaopaaGreatDoor
open Go.RowKit
theorem idxF0 (f g : Fn) (a b c d : Array Value) (w : World) : (Instr.index 110 (.agg #[.func f a b, .func g c d]) (.int .i64 0)).run Tryz.prog w = .ok (.func f a b) w := by kernel_rfl
theorem idxF1 (f g : Fn) (a b c d : Array Value) (w : World) : (Instr.index 110 (.agg #[.func f a b, .func g c d]) (.int .i64 1)).run Tryz.prog w = .ok (.func g c d) w := by kernel_rfl
theorem alongX_m (m : Mach) (X Y : List Value) (hX : X.length = 26) (hY : Y.length = 26) (w : World) (hok : m.ok = true) (h : MIn w m) :
  Calls Tryz.prog 95 #[.agg (m.st X Y).toArray] w fun e w' => ∃ v, e = .returned (.agg #[.int .i64 m.axX.c0, .int .i64 m.axX.c1, .int .i64 m.axX.w0, .int .i64 m.axX.w1, v]) ∧ CSp w' v m.axX.n m.axX.cl ∧ Below w.heap.size w w' := by
 obtain ⟨hs, hr, _, hrd⟩ := Mach.ok_parts hok
 refine (alongX_any _ m w (m.st_cells hX hY) h.reads (by omega) hrd).mono ?_
 rintro e w' ⟨v, rfl, h1, h2, hb⟩
 exact ⟨v, rfl, csp_of_row h1 h2, hb⟩
theorem alongY_m (m : Mach) (X Y : List Value) (hX : X.length = 26) (hY : Y.length = 26) (w : World) (hok : m.ok = true) (h : MIn w m) :
  Calls Tryz.prog 96 #[.agg (m.st X Y).toArray] w fun e w' => ∃ v, e = .returned (.agg #[.int .i64 m.axY.c0, .int .i64 m.axY.c1, .int .i64 m.axY.w0, .int .i64 m.axY.w1, v]) ∧ CSp w' v m.axY.n m.axY.cl ∧ Below w.heap.size w w' := by
 obtain ⟨hs, hr, _, hrd⟩ := Mach.ok_parts hok
 refine (alongY_any _ m w (m.st_cells hX hY) h.reads (by omega) hrd).mono ?_
 rintro e w' ⟨v, rfl, h1, h2, hb⟩
 exact ⟨v, rfl, csp_of_row h1 h2, hb⟩
end Go.Proofs.YtjhpklolpmaopaaGreatDoor
namespace Go.Proofs.YtjhpklolpmaopaaGreatDoor
open Go.RowKit
end Go.Proofs.YtjhpklolpmaopaaGreatDoor
