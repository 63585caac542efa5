/- A part of the proof: see the last file. -/
import Derived.Test.YtlhgkepdoinlnaaGreatDoorPbk
import Derived.Test.YtlhgkepdoinlnaaGreatDoorPbf
import Derived.Test.YtlhgkepdoinlnaaGreatDoorPaa
import Derived.Laws.AppendOwn
import Derived.RegionTactic
set_option linter.unusedVariables false
set_option linter.unusedSimpArgs false
set_option linter.unusedSectionVars false
namespace Go.Proofs.YtlhgkepdoinlnaaGreatDoor
open Go.RowKit Go.Gen Go.Drum
/-- the cells of a row of four numbers each. -/
def qdL (f : Nat → Nat → Int) : Nat → List Value
 | 0 => []
 | n+1 => qdL f n ++ [.int .i64 (f n 0), .int .i64 (f n 1), .int .i64 (f n 2), .int .i64 (f n 3)]
theorem qdL_length (f : Nat → Nat → Int) : ∀ n, (qdL f n).length = n * 4
 | 0 => rfl
 | n+1 => by unfold qdL; rw [List.length_append, qdL_length f n]; simp; omega
theorem qdL_at (f : Nat → Nat → Int) : ∀ n i j, i < n → j < 4 → (qdL f n)[i * 4 + j]? = some (.int .i64 (f i j))
 | 0, i, j, h, _ => absurd h (Nat.not_lt_zero i)
 | n+1, i, j, h, hj => by
  have hl := qdL_length f n
  unfold qdL
  by_cases hi : i = n
  ·subst hi
   rw [List.getElem?_append_right (by omega), show i * 4 + j - (qdL f i).length = j by omega]
   match j, hj with
   | 0, _ => rfl
   | 1, _ => rfl
   | 2, _ => rfl
   | 3, _ => rfl
  ·rw [List.getElem?_append_left (by omega)]; exact qdL_at f n i j (by omega) hj
theorem ksl_of_qrow {w : World} {B : Nat} {e : TypeId} {v : Value} {n : Nat} {f : Nat → Nat → Int} (h : w.ownsRow B e 4 v n (qdL f n)) : KSl 4 w v n f := by
 have h' := h
 obtain ⟨_, ⟨h1, h2⟩ | ⟨g, cap, cur, rfl, h2, h3, _⟩⟩ := h
 ·exact .inl ⟨none, 0, h1, h2⟩
 ·refine .inr ⟨g, 0, cap, rfl, (Array.getElem?_eq_some_iff.1 h3).1, fun i hi j hj => ?_⟩
  have hc := h'.cellAt (i * 4 + j) (by omega)
  rw [show 0 + i * 4 + j = i * 4 + j by omega, hc]
  exact qdL_at f n i j hi hj
theorem ksl_of_crow {w : World} {B : Nat} {e : TypeId} {v : Value} {n : Nat} {f : Nat → Int × Int} (h : w.ownsRow B e 2 v n (crsL f n)) : KSl 2 w v n (fun i j => if j = 0 then (f i).1 else (f i).2) := by
 have h' := h
 obtain ⟨_, ⟨h1, h2⟩ | ⟨g, cap, cur, rfl, h2, h3, _⟩⟩ := h
 ·exact .inl ⟨none, 0, h1, h2⟩
 ·refine .inr ⟨g, 0, cap, rfl, (Array.getElem?_eq_some_iff.1 h3).1, fun i hi j hj => ?_⟩
  have hc := h'.cellAt (i * 2 + j) (by omega)
  obtain ⟨a1, a2⟩ := crsL_at f n i hi
  rw [show 0 + i * 2 + j = i * 2 + j by omega, hc]
  match j, hj with
  | 0, _ => exact a1
  | 1, _ => exact a2
theorem cells_four (w : World) (a b c d : Value) (e : TypeId) : ∀ (j : Nat) (u : Value), [a, b, c, d][j]? = some u → (w.alloc (Obj.cells #[a, b, c, d] e)).cell? ((⟨w.heap.size, 0, none⟩ : Addr).add j) = some u := by
 intro j u h
 match j, h with
 | 0, h => simp at h; subst h; simp [go_sem, Addr.add]
 | 1, h => simp at h; subst h; simp [go_sem, Addr.add]
 | 2, h => simp at h; subst h; simp [go_sem, Addr.add]
 | 3, h => simp at h; subst h; simp [go_sem, Addr.add]
 | n+4, h => simp at h
theorem four_one (x y z u : Int) : ∀ v ∈ [Value.int .i64 x, Value.int .i64 y, Value.int .i64 z, Value.int .i64 u], v.oneCell' = true := fun v hv => by
 simp only [List.mem_cons, List.mem_nil_iff, or_false] at hv
 rcases hv with rfl | rfl | rfl | rfl <;> rfl
theorem Tryz.infoQ : (Tryz.prog.info? 75).map (fun i => (i.zero, i.size, i.bytes)) = some (some (.agg #[.int .i64 0, .int .i64 0, .int .i64 0, .int .i64 0]), 4, 32) := by kernel_rfl
theorem Tryz.infoS : (Tryz.prog.info? 73).map (fun i => (i.zero, i.size, i.bytes)) = some (some (.agg #[.int .i64 0, .int .i64 0]), 2, 16) := by kernel_rfl
/-- what Known returns, row by row. -/
def Drm.knF (d : Drm) (l : List Nat) (h : Nat) : Nat → Nat → Int := fun i j => match j with
 | 0 => (hullTo (d.rE (d.B i)) l h).1
 | 1 => (hullTo (d.rE (d.B i)) l h).2
 | 2 => (hullTo (d.tE (d.B i)) l h).1
 | _ => (hullTo (d.tE (d.B i)) l h).2
/-- a row of so many that is returned with no error. -/
def RowOk (k n : Nat) (F : Nat → Nat → Int) (w : World) (e : Ending) (w' : World) : Prop := ∃ a c, e = .returned (.tuple #[.slice a n c, .int .i64 0]) ∧ KSl k w' (.slice a n c) n F ∧ Below w.heap.size w w'
set_option maxRecDepth 100000 in
set_option maxHeartbeats 4000000 in
theorem known_err (d : Drm) (h : Int) (er : Int) (hne : er = 2 ∨ er = 7) (w : World) (he : ∀ W, Below w.heap.size w W → Calls Tryz.prog 64 #[d.val, .bool (inB h 0 d.hours)] W (ExRule W er)) :
  Calls Tryz.prog 36 #[d.val, .int .i64 h] w (ExRule w er) := by
 obtain ⟨W0, hW⟩ : ∃ W0, w.alloc (.cells #[.slice d.aa d.an d.ac, .int .i64 d.known, .int .i64 d.hours, .slice d.da d.dn d.dc, .slice d.sa d.sn d.sc, .slice d.ba d.bn d.bc] 27) = W0 := ⟨_, rfl⟩
 have hX : PoD w d W0 := by rw [← hW]; exact PoD.new w d
 obtain ⟨q0, q1, q2, q3, q4, q5⟩ := id hX.at'
 have hwi := fun W => within_any h 0 d.hours W
 rcases hne with rfl | rfl
 all_goals
  go_enter Tryz.func36, Tryz.ntmps36
  go_wp2_with fail
  refine wp_region_late [] (fun w9 => PoD w d w9) (fun _ => True) (by kernel_rfl) ?_ (fun hHeld => ?_)
  ·exact ⟨hX.drew, trivial⟩
  have hH := hHeld.1
  generalize W0.drew = V0 at hH hHeld ⊢
  refine tk2 0 rfl (by intro w9 hSw; have hS := hSw; clear hSw; (have hq := hS.at'; have z := hq.k0; have z1 := hq.k1; have z2 := hq.k2; have z3 := hq.k3; have z4 := hq.k4; have z5 := hq.k5; clear hq; clear hS; go_simp) <;> with_reducible rfl) hHeld ?_
  refine tk1 1 rfl hHeld ?_
  refine tk1 2 rfl hHeld ?_
  refine tk2 3 rfl (by intro w9 hSw; have hS := hSw; clear hSw; (have z := hS.at'.k2; clear hS; go_simp) <;> with_reducible rfl) hHeld ?_
  refine rd1 4 rfl (fun K hK => ?_)
  go_simp
  (go_at_call 61; (with_reducible refine (hwi _).mono ?_); rintro e w5 ⟨rfl, rfl⟩)
  refine hK.out _ _ ?_ (fun hHeld => ?_)
  ·exact ⟨hH, trivial⟩
  clear hK K hH
  have hH := hHeld.1
  (try simp only [Act.put, xpA, xpZ, xpS])
  refine rd1 5 rfl (fun K hK => ?_)
  go_simp
  (go_at_call 64; (with_reducible refine (he _ hH.old).mono ?_); rintro e w1 ⟨rfl, hb⟩)
  refine hK.out _ _ ?_ (fun hHeld => ?_)
  ·exact ⟨hH.below hb, trivial⟩
  clear hK K hH
  have hH := hHeld.1
  (try simp only [Act.put, xpA, xpZ, xpS])
  refine tk1 6 rfl hHeld ?_
  refine tk1 7 rfl hHeld ?_
  refine tk1 8 rfl hHeld ?_
  refine tk1 9 rfl hHeld ?_
  refine tk1 10 rfl hHeld ?_
  refine wpAnyP_done (by kernel_rfl) ?_ _
  (try simp only [Act.put, List.getElem_toArray, List.getElem_cons_zero, List.getElem_cons_succ, xpA, xpZ, xpS])
  have hO := hHeld.1.old
  go_wp2
  go_ret2
  exact ⟨rfl, hO⟩

set_option maxRecDepth 100000 in
set_option maxHeartbeats 4000000 in
theorem known_ok' (d : Drm) (l : List Nat) (hl : CouldTo d d.an l) (hr : Nat) (w : World) (hd : DIn w d) (hok : d.Ok) (hh : hr ≤ d.dn) (he : ∀ W, Below w.heap.size w W → Calls Tryz.prog 64 #[d.val, .bool (inB hr 0 d.hours)] W (ExOk d W)) :
  Calls Tryz.prog 36 #[d.val, .int .i64 hr] w (RowOk 4 d.bn (d.knF l hr) w) := by
 obtain ⟨i0, hinf, hzz, hzs, hzb⟩ := info_parts Tryz.infoQ
 obtain ⟨W0, hW⟩ : ∃ W0, w.alloc (.cells #[.slice d.aa d.an d.ac, .int .i64 d.known, .int .i64 d.hours, .slice d.da d.dn d.dc, .slice d.sa d.sn d.sc, .slice d.ba d.bn d.bc] 27) = W0 := ⟨_, rfl⟩
 have hX : PoD w d W0 := by rw [← hW]; exact PoD.new w d
 obtain ⟨q0, q1, q2, q3, q4, q5⟩ := id hX.at'
 have hwi := fun W => within_any (hr : Int) 0 d.hours W
 have hbn := hok.batches
 obtain ⟨bb, ob, cb, e', hbb, hpb⟩ := hd.batches.pos (by omega)
 obtain ⟨eb, ebc⟩ : d.ba = some ⟨bb, ob, none⟩ ∧ d.bc = cb := by injection e' with e1 e2 e3; exact ⟨e1, e3⟩
 clear e'
 rw [eb, ebc] at hW q5
 have he : ∀ W, Below w.heap.size w W → Calls Tryz.prog 64 #[.agg #[.slice d.aa d.an d.ac, .int .i64 d.known, .int .i64 d.hours, .slice d.da d.dn d.dc, .slice d.sa d.sn d.sc, .slice (some ⟨bb, ob, none⟩) d.bn cb], .bool (inB hr 0 d.hours)] W (ExOk d W) := fun W hB => by rw [← eb, ← ebc]; exact he W hB
 go_enter Tryz.func36, Tryz.ntmps36
 go_wp2_with fail
 refine wp_region_late [] (fun w9 => PoD w d w9) (fun _ => True) (by kernel_rfl) ?_ (fun hHeld => ?_)
 ·exact ⟨hX.drew, trivial⟩
 have hH := hHeld.1
 generalize W0.drew = V0 at hH hHeld ⊢
 refine tk2 0 rfl (by intro w9 hSw; have hS := hSw; clear hSw; (have hq := hS.at'; have z := hq.k0; have z1 := hq.k1; have z2 := hq.k2; have z3 := hq.k3; have z4 := hq.k4; have z5 := hq.k5; clear hq; clear hS; go_simp) <;> with_reducible rfl) hHeld ?_
 refine tk1 1 rfl hHeld ?_
 refine tk1 2 rfl hHeld ?_
 refine tk2 3 rfl (by intro w9 hSw; have hS := hSw; clear hSw; (have z := hS.at'.k2; clear hS; go_simp) <;> with_reducible rfl) hHeld ?_
 refine rd1 4 rfl (fun K hK => ?_)
 go_simp
 (go_at_call 61; (with_reducible refine (hwi _).mono ?_); rintro e w5 ⟨rfl, rfl⟩)
 refine hK.out _ _ ?_ (fun hHeld => ?_)
 ·exact ⟨hH, trivial⟩
 clear hK K hH
 have hH := hHeld.1
 (try simp only [Act.put, xpA, xpZ, xpS])
 refine rd1 5 rfl (fun K hK => ?_)
 go_simp
 (go_at_call 64; (with_reducible refine (he _ hH.old).mono ?_); rintro e w1 ⟨xs, g, cap, rfl, hx1, hx2, hC, hb⟩)
 refine hK.out _ _ ?_ (fun hHeld => ?_)
 ·exact ⟨hH.below hb, trivial⟩
 clear hK K hH
 have hH := hHeld.1
 (try simp only [Act.put, xpA, xpZ, xpS])
 refine tk1 6 rfl hHeld ?_
 refine tk1 7 rfl hHeld ?_
 refine tk1 8 rfl hHeld ?_
 refine tk1 9 rfl hHeld ?_
 refine tk1 10 rfl hHeld ?_
 refine wpAnyP_done (by kernel_rfl) ?_ _
 (try simp only [Act.put, List.getElem_toArray, List.getElem_cons_zero, List.getElem_cons_succ, xpA, xpZ, xpS])
 have hxl : xs.map Ch.acid = l := CouldTo.same hC.could hl
 have hXw := hHeld.1
 obtain ⟨⟨p0, p1, p2, p3, p4, p5⟩, _, _⟩ := id hXw
 rw [eb, ebc] at p5
 clear hHeld he hwi hX q0 q1 q2 q3 q4 q5
 go_wp2_with fail
 go_loopw [8, 26] (fun u i' wr => ∃ k : Nat, k ≤ d.bn ∧ i' = .int .i64 k ∧ Below w1.heap.size w1 wr ∧ wr.ownsRow w1.heap.size 75 4 u k (qdL (d.knF l hr) k)) (fun _ i' _ => d.bn - (intOf i').toNat)
 case atStart => exact ⟨0, Nat.zero_le _, rfl, Below.refl _ _, World.ownsRow_nil _ _ _ _⟩
 clear p0 p1 p2 p3 p4 p5
 case round =>
  obtain ⟨k, hk5, rfl, hbl, hown⟩ := hrel
  have hk6 : (0 : Int) ≤ (k : Int) := Int.natCast_nonneg _
  have hBw := hXw.old.trans (hbl.mono hXw.old.size)
  by_cases hlt : k < d.bn
  ·have hk7 : (k : Int) < (d.bn : Int) := by omega
   have hk8 : (k : Int) < 5 := by omega
   have hp1 := hpb.below hBw hbb
   have e0 := hp1.first hlt (by decide)
   have e1 := hp1 k hlt 1 (by decide)
   have e2 := hp1 k hlt 2 (by decide)
   have e3 := hp1 k hlt 3 (by decide)
   have e4 := hp1 k hlt 4 (by decide)
   have e5 := hp1 k hlt 5 (by decide)
   obtain ⟨W2, hW2⟩ : ∃ W, wr.alloc (Obj.cells #[.int .i64 (d.B k 0), .int .i64 (d.B k 1), .int .i64 (d.B k 2), .int .i64 (d.B k 3), .int .i64 (d.B k 4), .int .i64 (d.B k 5)] 79) = W := ⟨_, rfl⟩
   have hb2 : Below wr.heap.size wr W2 := by rw [← hW2]; exact (Below.refl _ _).alloc (Nat.le_refl _) _
   have c : ∀ j v, (#[.int .i64 (d.B k 0), .int .i64 (d.B k 1), .int .i64 (d.B k 2), .int .i64 (d.B k 3), .int .i64 (d.B k 4), .int .i64 (d.B k 5)] : Array Value)[j]? = some v → W2.cell? ⟨wr.heap.size, j, none⟩ = some v := fun j v h => by rw [← hW2]; exact cells_new wr _ _ h
   have f0 := c 0 _ rfl
   have f1 := c 1 _ rfl
   have f2 := c 2 _ rfl
   have f3 := c 3 _ rfl
   have f4 := c 4 _ rfl
   have f5 := c 5 _ rfl
   clear c
   have hsz := hbl.size
   have hsz2 := hb2.size
   have hown2 := row_below hown hb2
   have hbo := bounds_any d _ xs g cap (d.B k) hr W2 hok (hok.bat hlt) (hC.below (hbl.trans (hb2.mono hsz))) hx1 hx2 hh
   rw [hxl] at hbo
   have hpush : Hdn (qdL (d.knF l hr) (k + 1) = qdL (d.knF l hr) k ++ [.int .i64 (hullTo (d.rE (d.B k)) l hr).1, .int .i64 (hullTo (d.rE (d.B k)) l hr).2, .int .i64 (hullTo (d.tE (d.B k)) l hr).1, .int .i64 (hullTo (d.tE (d.B k)) l hr).2]) := ⟨rfl⟩
   generalize (hullTo (d.rE (d.B k)) l hr).1 = A0 at hbo hpush
   generalize (hullTo (d.rE (d.B k)) l hr).2 = A1 at hbo hpush
   generalize (hullTo (d.tE (d.B k)) l hr).1 = A2 at hbo hpush
   generalize (hullTo (d.tE (d.B k)) l hr).2 = A3 at hbo hpush
   go_wp2_with (first
    | (go_at_call 75; (with_reducible refine hbo.mono ?_); rintro e w3 ⟨rfl, hb3⟩; have hown3 := row_below hown2 hb3; have hsz3 := hb3.size)
    | (at_builtin; refine wpList_append_own _ rfl _ _ 65 rfl w1.heap.size 75 i0 (.agg #[.int .i64 0, .int .i64 0, .int .i64 0, .int .i64 0]) 4 32 Tryz.underlying65 hinf hzz hzs hzb rfl (by decide) _ _ _ rfl (hown3.alloc _) ⟨w3.heap.size, 0, none⟩ 1 1 [.int .i64 A0, .int .i64 A1, .int .i64 A2, .int .i64 A3] rfl rfl (cells_four _ _ _ _ _ _) (four_one _ _ _ _) (by unfold maxLen; omega) (by omega) (by rw [World.size_alloc]; omega) ?_))
   intro v3 w4 hown4 hgrow _
   have hb4 : Below w1.heap.size w1 w4 := ((hbl.trans ((hb2.trans (hb3.mono hsz2)).mono hsz)).alloc (by omega) _).grown hgrow (by rw [World.size_alloc]; omega) (fun k hk => (hown3.lt k hk).1)
   rw [← hpush.out] at hown4
   clear hgrow hown hown2 hown3 e0 e1 e2 e3 e4 e5 f0 f1 f2 f3 f4 f5 hW2 hbo hpush
   go_wp2
   go_roundw
   case rel => exact ⟨k + 1, by omega, by go_num, hb4, hown4⟩
   case measure => simp [intOf] <;> omega
  ·obtain rfl : k = d.bn := by omega
   have hk9 : ¬ (d.bn : Int) < (d.bn : Int) := by omega
   have hks := ksl_of_qrow hown
   obtain ⟨a, c, rfl⟩ := ksl_slice hks
   clear hown
   go_wp2
   exact bodyPost_ret (v := .tuple #[.slice a _ c, .int .i64 0]) (by simp [results, Tryz.results36, go_sem]) rfl ⟨_, _, rfl, hks, hBw⟩

end Go.Proofs.YtlhgkepdoinlnaaGreatDoor
/-! An append to an own row at a step of a region that draws its order (no program text is mentioned) -/
namespace Go
variable {P : Program} {w : World}
theorem step_append_own {ops : Array Oper} {o : Oper} {a : Act} {K : Act → World → Prop} {Q : Exit → Act → World → Prop} {E : Prop} (hgd : o.guard = none) (s x : Operand) (t : TypeId)
  (ho : o.op = .call { callee := .builtin .append, args := #[s, x], argTypes := #[t, t] })
  (base : Nat) (e : TypeId) (i : TypeInfo) (z : Value) (size bytes : Nat) (ht : P.underlying t = some (.slice e)) (hi : P.info? e = some i) (hz : i.zero = some z)
  (hsize : i.size = size) (hby : i.bytes = bytes) (hzs : z.cells.size = size) (hsz : 0 < size)
  (v : Value) (n : Nat) (xs : List Value) (hs : a.eval s = v) (hown : w.ownsRow base e size v n xs)
  (ad : Addr) (m c : Nat) (news : List Value) (hx : a.eval x = .slice (some ad) m c) (hl : news.length = m * size) (hnews : ∀ j u, news[j]? = some u → w.cell? (ad.add j) = some u) (h1 : ∀ u ∈ news, u.oneCell' = true)
  (h63 : n + m ≤ maxLen) (hbytes : (n + m) * bytes ≤ 140737488355328) (hbase : base ≤ w.heap.size)
  (h : ∀ v' w', w'.ownsRow base e size v' (n + m) (xs ++ news) → w.grownBy w' v.ownBlock → K (a.put o.dst v') w') :
  if Region.wanted o (yielded ops a.tmps) = true then Oper.wp P o a w K Q else E := by
 have hw : Region.wanted o (yielded ops a.tmps) = true := by simp [Region.wanted, hgd]
 rw [if_pos hw]
 exact wp_append_own w s x t ho base e i z size bytes ht hi hz hsize hby hzs hsz v n xs hs hown ad m c news hx hl hnews h1 h63 hbytes hbase fun v' w' h2 h3 _ => h v' w' h2 h3
end Go
namespace Go.Proofs.YtlhgkepdoinlnaaGreatDoor
open Go.RowKit Go.Gen Go.Drum
/-- a truth's strengths are bounded. -/
theorem fits_small {d : Drm} {i : Nat} {F : Nat → Nat → Int} (hok : d.Ok) (hi : i < d.an) (h : d.fits i F) : ∀ k, k < d.dn → 0 ≤ F k 0 ∧ F k 0 ≤ 2400 := fun k hk => by
 have hdn : 1 ≤ d.dn ∧ d.dn ≤ 12 := by have := hok.hours; have := hok.adds; omega
 have ht : (d.acid i).truth d.dn fun k => F k 0 := (Acid.holds_iff hdn.1).1 h.2
 have h1 := Acid.ends_in (hok.small hi).fine ht k hk
 have h2 := Acid.ends_small (hok.small hi) (Acid.can_of ht) hdn.2 hk
 (try dsimp only at h1)
 omega
/-- the states of batches in a truth. -/
def Drm.stF (d : Drm) (F : Nat → Nat → Int) (h : Nat) : Nat → Int × Int := fun i => (left (d.B i 0) (d.B i 4) (fun k => F k 0) h, left (d.B i 2) (d.B i 5) (fun k => F k 0) h)
def prF (f : Nat → Int × Int) : Nat → Nat → Int := fun i j => if j = 0 then (f i).1 else (f i).2
set_option maxRecDepth 100000 in
set_option maxHeartbeats 4000000 in
theorem run_not (d : Drm) (i : Nat) (ta : Option Addr) (tc : Nat) (F : Nat → Nat → Int) (h : Int) (w : World) (hd : DIn w d) (hl : d.Len) (hok : d.Ok) (hi : i < d.an) (hF : KSl 1 w (.slice ta d.dn tc) d.dn F) (hno : ¬ (d.fits i F ∧ 0 ≤ h ∧ h ≤ d.hours)) :
  Calls Tryz.prog 35 #[d.val, .agg #[.int .i64 i, .slice ta d.dn tc], .int .i64 h] w (ExRule w 2) := by
 obtain ⟨W0, hW⟩ : ∃ W0, w.alloc (.cells #[.slice d.aa d.an d.ac, .int .i64 d.known, .int .i64 d.hours, .slice d.da d.dn d.dc, .slice d.sa d.sn d.sc, .slice d.ba d.bn d.bc] 27) = W0 := ⟨_, rfl⟩
 have hX0 : PoD w d W0 := by rw [← hW]; exact PoD.new w d
 have hz : W0.heap.size = w.heap.size + 1 := by rw [← hW, World.size_alloc]
 obtain ⟨W1, hW1⟩ : ∃ W, W0.alloc (.cells #[.int .i64 i, .slice ta d.dn tc] 29) = W := ⟨_, rfl⟩
 have hX : PoT w d ⟨i, ta, d.dn, tc, F⟩ W1 := by rw [← hW1]; exact PoT.new w d ⟨i, ta, d.dn, tc, F⟩ hX0 hz
 clear hX0
 obtain ⟨⟨⟨q0, q1, q2, q3, q4, q5⟩, _, _⟩, r0, r1, _⟩ := id hX
 (try dsimp only at r0 r1)
 have hwi := fun W => within_any h 0 d.hours W
 by_cases hf : d.fits i F
 ·have hfi := fun (W : World) (hB : Below w.heap.size w W) => fits_is d i ta tc F W (hd.below hB) hl hok hi (hF.below hB) true ⟨fun _ => hf, fun _ => rfl⟩
  have hin : inB h 0 d.hours = false := inB_not.2 fun hh => hno ⟨hf, hh⟩
  rw [hin] at hwi
  clear hno hin hf
  go_enter Tryz.func35, Tryz.ntmps35
  go_wp2_with (first | (go_at_call 18; (with_reducible refine (hfi _ hX.d.old).mono ?_); rintro e w1 ⟨rfl, hb⟩; replace hX := hX.below hb; obtain ⟨⟨⟨q0, q1, q2, q3, q4, q5⟩, _, _⟩, r0, r1, _⟩ := id hX; (try dsimp only at r0 r1)) | (go_at_call 61; (with_reducible refine (hwi _).mono ?_); rintro e w5 ⟨rfl, rfl⟩))
  go_ret2
  exact ⟨rfl, hX.d.old⟩
 ·have hfi := fun (W : World) (hB : Below w.heap.size w W) => fits_is d i ta tc F W (hd.below hB) hl hok hi (hF.below hB) false ⟨fun hh => (by cases hh), fun hh => absurd hh hf⟩
  clear hno hf
  go_enter Tryz.func35, Tryz.ntmps35
  go_wp2_with (first | (go_at_call 18; (with_reducible refine (hfi _ hX.d.old).mono ?_); rintro e w1 ⟨rfl, hb⟩; replace hX := hX.below hb; obtain ⟨⟨⟨q0, q1, q2, q3, q4, q5⟩, _, _⟩, r0, r1, _⟩ := id hX; (try dsimp only at r0 r1)) | (go_at_call 61; (with_reducible refine (hwi _).mono ?_); rintro e w5 ⟨rfl, rfl⟩))
  go_ret2
  exact ⟨rfl, hX.d.old⟩
set_option maxRecDepth 100000 in
set_option maxHeartbeats 4000000 in
theorem run_yes (d : Drm) (i : Nat) (ta : Option Addr) (tc : Nat) (F : Nat → Nat → Int) (hr : Nat) (w : World) (hd : DIn w d) (hl : d.Len) (hok : d.Ok) (hi : i < d.an) (hF : KSl 1 w (.slice ta d.dn tc) d.dn F) (hf : d.fits i F) (hh : hr ≤ d.dn) (htc : d.dn ≤ tc) :
  Calls Tryz.prog 35 #[d.val, .agg #[.int .i64 i, .slice ta d.dn tc], .int .i64 hr] w (RowOk 2 d.bn (prF (d.stF F hr)) w) := by
 have hdn : 1 ≤ d.dn ∧ d.dn ≤ 12 := by have := hok.hours; have := hok.adds; omega
 obtain ⟨hdn1, hdn2⟩ := hdn
 obtain ⟨bt, ot, ct, et', hbt, hpt⟩ := hF.pos hdn1
 obtain ⟨rfl, rfl⟩ : ta = some ⟨bt, ot, none⟩ ∧ tc = ct := by injection et' with e1 e2 e3; exact ⟨e1, e3⟩
 clear et'
 have hpt0 : KRows 1 w bt ot d.dn (fun i _ => F i 0) := fun i hi j hj => by
  obtain rfl : j = 0 := by omega
  exact hpt i hi 0 hj
 obtain ⟨i0, hinf, hzz, hzs, hzb⟩ := info_parts Tryz.infoS
 have hbn := hok.batches
 obtain ⟨W0, hW⟩ : ∃ W0, w.alloc (.cells #[.slice d.aa d.an d.ac, .int .i64 d.known, .int .i64 d.hours, .slice d.da d.dn d.dc, .slice d.sa d.sn d.sc, .slice d.ba d.bn d.bc] 27) = W0 := ⟨_, rfl⟩
 have hX0 : PoD w d W0 := by rw [← hW]; exact PoD.new w d
 have hz : W0.heap.size = w.heap.size + 1 := by rw [← hW, World.size_alloc]
 obtain ⟨W1, hW1⟩ : ∃ W, W0.alloc (.cells #[.int .i64 i, .slice (some ⟨bt, ot, none⟩) d.dn tc] 29) = W := ⟨_, rfl⟩
 have hX : PoT w d ⟨i, some ⟨bt, ot, none⟩, d.dn, tc, F⟩ W1 := by rw [← hW1]; exact PoT.new w d ⟨i, some ⟨bt, ot, none⟩, d.dn, tc, F⟩ hX0 hz
 clear hX0
 obtain ⟨⟨⟨q0, q1, q2, q3, q4, q5⟩, _, _⟩, r0, r1, _⟩ := id hX
 (try dsimp only at r0 r1)
 have hfi := fun (W : World) (hB : Below w.heap.size w W) => fits_is d i _ tc F W (hd.below hB) hl hok hi (hF.below hB) true ⟨fun _ => hf, fun _ => rfl⟩
 have hwi := fun W => within_any (hr : Int) 0 d.hours W
 rw [inB_yes (n := (hr : Int)) (lo := 0) (hi := d.hours) (by omega) (by have := hok.adds; omega)] at hwi
 have hsm : ∀ j, j < hr → 0 ≤ F j 0 ∧ F j 0 ≤ 10000 := fun j hj => by have := fits_small hok hi hf j (by omega); omega
 have hh1 : (hr : Int) ≤ (tc : Int) := by omega
 have hh2 : hr ≤ tc := by omega
 have hh3 : ¬ tc = 0 := by omega
 have hh0 : (0 : Int) ≤ (hr : Int) := Int.natCast_nonneg _
 clear hf
 go_enter Tryz.func35, Tryz.ntmps35
 go_wp2_with (first | (go_at_call 18; (with_reducible refine (hfi _ hX.d.old).mono ?_); rintro e w1 ⟨rfl, hb⟩; replace hX := hX.below hb; obtain ⟨⟨⟨q0, q1, q2, q3, q4, q5⟩, _, _⟩, r0, r1, _⟩ := id hX; (try dsimp only at r0 r1)) | (go_at_call 61; (with_reducible refine (hwi _).mono ?_); rintro e w5 ⟨rfl, rfl⟩))
 go_loopw [10, 35] (fun u i' wr => ∃ k : Nat, k ≤ d.bn ∧ i' = .int .i64 k ∧ Below w1.heap.size w1 wr ∧ wr.ownsRow w1.heap.size 73 2 u k (crsL (d.stF F hr) k)) (fun _ i' _ => d.bn - (intOf i').toNat)
 case atStart => exact ⟨0, Nat.zero_le _, rfl, Below.refl _ _, World.ownsRow_nil _ _ _ _⟩
 clear q0 q1 q2 q3 q4 q5 r0 r1
 case round =>
  obtain ⟨k, hk5, rfl, hbl, hown⟩ := hrel
  have hk6 : (0 : Int) ≤ (k : Int) := Int.natCast_nonneg _
  have hXr := hX.below hbl
  by_cases hlt : k < d.bn
  ·have hk7 : (k : Int) < (d.bn : Int) := by omega
   have hk8 : (k : Int) < 5 := by omega
   obtain ⟨bb, ob, cb, e', hbb, hpb⟩ := hd.batches.pos (by omega)
   obtain ⟨eb, ebc⟩ : d.ba = some ⟨bb, ob, none⟩ ∧ d.bc = cb := by injection e' with e1 e2 e3; exact ⟨e1, e3⟩
   clear e'
   have hp1 := hpb.below hXr.d.old hbb
   have e0 := hp1.first hlt (by decide)
   have e1 := hp1 k hlt 1 (by decide)
   have e2 := hp1 k hlt 2 (by decide)
   have e3 := hp1 k hlt 3 (by decide)
   have e4 := hp1 k hlt 4 (by decide)
   have e5 := hp1 k hlt 5 (by decide)
   obtain ⟨W2, hW2⟩ : ∃ W, wr.alloc (Obj.cells #[.int .i64 (d.B k 0), .int .i64 (d.B k 1), .int .i64 (d.B k 2), .int .i64 (d.B k 3), .int .i64 (d.B k 4), .int .i64 (d.B k 5)] 79) = W := ⟨_, rfl⟩
   have hb2 : Below wr.heap.size wr W2 := by rw [← hW2]; exact (Below.refl _ _).alloc (Nat.le_refl _) _
   have hz2 : wr.heap.size < W2.heap.size := by rw [← hW2, World.size_alloc]; omega
   have c : ∀ j v, (#[.int .i64 (d.B k 0), .int .i64 (d.B k 1), .int .i64 (d.B k 2), .int .i64 (d.B k 3), .int .i64 (d.B k 4), .int .i64 (d.B k 5)] : Array Value)[j]? = some v → ∀ W, Below W2.heap.size W2 W → W.cell? ⟨wr.heap.size, j, none⟩ = some v := fun j v h W hB => (hB.cell (p := ⟨wr.heap.size, j, none⟩) hz2).trans (by rw [← hW2]; exact cells_new wr _ _ h)
   have hcb : ∀ W, Below W2.heap.size W2 W → W.cell? ⟨wr.heap.size, 0, none⟩ = some (.int .i64 (d.B k 0)) ∧ W.cell? ⟨wr.heap.size, 1, none⟩ = some (.int .i64 (d.B k 1)) ∧ W.cell? ⟨wr.heap.size, 2, none⟩ = some (.int .i64 (d.B k 2)) ∧ W.cell? ⟨wr.heap.size, 3, none⟩ = some (.int .i64 (d.B k 3)) ∧ W.cell? ⟨wr.heap.size, 4, none⟩ = some (.int .i64 (d.B k 4)) ∧ W.cell? ⟨wr.heap.size, 5, none⟩ = some (.int .i64 (d.B k 5)) :=
    fun W hB => ⟨c 0 _ rfl W hB, c 1 _ rfl W hB, c 2 _ rfl W hB, c 3 _ rfl W hB, c 4 _ rfl W hB, c 5 _ rfl W hB⟩
   clear c
   have hX2 := hXr.below hb2
   have hsz := hbl.size
   have hsz2 := hb2.size
   have hown2 := row_below hown hb2
   have hbat := hok.bat hlt
   have haf := fun (W : World) (hB : Below w.heap.size w W) => after_any (d.B k 0) (d.B k 1) (d.B k 2) (d.B k 3) (d.B k 4) (d.B k 5) hr (some ⟨bt, ot, none⟩) tc (fun j => F j 0) W (by omega) hbat.h0 hbat.h2 hbat.h4 hbat.h5 hsm (krows_pre (hpt0.below hB hbt) hh (Nat.lt_of_lt_of_le hbt hB.size))
   have hpush : Hdn (crsL (d.stF F hr) (k + 1) = crsL (d.stF F hr) k ++ [.int .i64 (max 0 (d.B k 0 - loss (d.B k 4) (fun j => F j 0) hr)), .int .i64 (max 0 (d.B k 2 - loss (d.B k 5) (fun j => F j 0) hr))]) := ⟨rfl⟩
   generalize max 0 (d.B k 0 - loss (d.B k 4) (fun j => F j 0) hr) = S0 at haf hpush
   generalize max 0 (d.B k 2 - loss (d.B k 5) (fun j => F j 0) hr) = S1 at haf hpush
   go_wp2_with fail
   clear e0 e1 e2 e3 e4 e5
   refine wp_region_late [8] (fun _ => True) (fun w9 => Below W2.heap.size W2 w9) (by kernel_rfl) ?_ (fun hHeld => ?_)
   ·exact ⟨trivial, (Below.refl _ _).drew⟩
   have hH := hHeld.2
   generalize W2.drew = V2 at hH hHeld ⊢
   refine tk1 0 rfl hHeld ?_
   refine tkT 1 2 rfl (waits_one [6] (by kernel_rfl)) (by intro w9 hSw; have hS := hSw.2; clear hSw; (obtain ⟨z, z1, z2, z3, z4, z5⟩ := hcb w9 hS; clear hS; go_simp) <;> with_reducible rfl) hHeld ?_
   refine tk1 2 rfl hHeld ?_
   refine tkT 3 3 rfl (waits_one [6, 5] (by kernel_rfl)) (by intro w9 hSw; have hS := hSw.2; clear hSw; (have z := (hX2.below hS).k1; (try dsimp only at z); clear hS; go_simp) <;> with_reducible rfl) hHeld ?_
   refine tk1 4 rfl hHeld ?_
   refine tk2 5 (v := .slice (some ⟨bt, ot, none⟩) hr tc) rfl (by intro w9 hSw; have hS := hSw; clear hSw; clear hS; (go_simp) <;> with_reducible rfl) hHeld ?_
   refine rd1 6 rfl (fun K hK => ?_)
   go_simp
   (go_at_call 74; (with_reducible refine (haf _ (hX2.d.old.trans (hH.mono hX2.d.old.size))).mono ?_); rintro e w3 ⟨rfl, hb3⟩)
   have hH2 := hH.trans (hb3.mono hH.size)
   refine hK.out _ _ ?_ (fun hHeld => ?_)
   ·exact ⟨trivial, hH2⟩
   clear hK K hH
   have hH := hHeld.2
   (try simp only [Act.put, xpA, xpZ, xpS])
   refine rd1 7 rfl (fun K hK => ?_)
   go_simp
   have hHb := hH
   have hHn := hH.alloc hH.size (Obj.cells #[.int .i64 S0, .int .i64 S1] 73)
   refine hK.out _ _ ?_ (fun hHeld => ?_)
   ·exact ⟨trivial, hHn⟩
   clear hK K hH
   have hH := hHeld.2
   (try simp only [Act.put, xpA, xpZ, xpS])
   refine rdL 8 rfl (fun K hK => ?_)
   refine step_append_own (by rfl) _ _ _ (by rfl) w1.heap.size 73 i0 (.agg #[.int .i64 0, .int .i64 0]) 2 16 Tryz.underlying62 hinf hzz hzs hzb rfl (by decide) u10 k (crsL (d.stF F hr) k) (by rfl) (row_below hown2 hH) ⟨w3.heap.size, 0, none⟩ 1 1 [.int .i64 S0, .int .i64 S1] (by rfl) rfl (cells_two _ _ _ _) (two_one _ _) (by unfold maxLen; omega) (by omega) (by have h1 := hHb.size; rw [World.size_alloc]; omega) ?_
   intro v3 w4 hown4 hgrow
   have hHl := hH
   refine hK.out _ _ ?_ (fun _ => ?_)
   ·trivial
   clear hK K
   (try simp only [Act.put, xpA, xpZ, xpS])
   refine tkB 9 rfl trivial ?_
   refine wpAnyP_done (by kernel_rfl) ?_ _
   (try simp only [Act.put, List.getElem_toArray, List.getElem_cons_zero, List.getElem_cons_succ, xpA, xpZ, xpS])
   have hb4 : Below w1.heap.size w1 w4 := (hbl.trans ((hb2.trans (hHl.mono hsz2)).mono hsz)).grown hgrow (by have h1 := hHb.size; rw [World.size_alloc]; omega) (fun k hk => (hown2.lt k hk).1)
   rw [← hpush.out] at hown4
   clear hgrow hown hown2 hW2 haf hpush hH hHb hHl
   go_wp2
   refine ⟨?_, ?measure⟩; (repeat apply Exists.intro); refine ⟨?rel, by rw [eb, ebc]⟩
   case rel => exact ⟨k + 1, by omega, by go_num, hb4, hown4⟩
   case measure => simp [intOf] <;> omega

  ·obtain rfl : k = d.bn := by omega
   have hk9 : ¬ (d.bn : Int) < (d.bn : Int) := by omega
   have hks := ksl_of_crow hown
   obtain ⟨a, c, rfl⟩ := ksl_slice hks
   have hO := hXr.d.old
   clear hown
   go_wp2
   exact bodyPost_ret (v := .tuple #[.slice a _ c, .int .i64 0]) (by simp [results, Tryz.results35, go_sem]) rfl ⟨_, _, rfl, hks, hO⟩
end Go.Proofs.YtlhgkepdoinlnaaGreatDoor
