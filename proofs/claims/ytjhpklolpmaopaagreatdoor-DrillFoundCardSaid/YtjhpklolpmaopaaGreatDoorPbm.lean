/- A part of the proof: see the last file. -/
import Derived.Test.YtjhpklolpmaopaaGreatDoorPaa
import Derived.Test.YtjhpklolpmaopaaGreatDoorPbk
import Derived.Test.YtjhpklolpmaopaaGreatDoorPbl
import Derived.Test.YtjhpklolpmaopaaGreatDoorPbj
import Derived.Test.YtjhpklolpmaopaaGreatDoorPbd
import Derived.ProofKit
import Derived.LaidMore
import Derived.OpenShut
import Derived.Stop.Joined
import Derived.Deep.Slices
import Derived.Carry
import Derived.ChangeSame
import Derived.Below
import Derived.Laws.EntriesVeiled
import Derived.RangeFuncRecord
import Derived.Test.YtjhpklolpmaopaaGreatDoorPbh
set_option linter.unusedVariables false
set_option linter.unusedSimpArgs false
set_option linter.unusedSectionVars false
namespace Go.Proofs.YtjhpklolpmaopaaGreatDoor
open Go.RowKit Go.Can
/-- the hole that a stop gives. -/
def holeX (m : Mach) (F G R : Nat → Int) (k t j : Nat) : Int × Int := ((trn t (m.SX j + F k, m.SY j + G k)).1 + R (2 * j), (trn t (m.SX j + F k, m.SY j + G k)).2 + R (2 * j + 1))
/-- the errors of the first stops are as small as told. -/
def okErrs (R : Nat → Int) (mo : Int) (j : Nat) : Prop := (-mo ≤ R (2 * j) ∧ R (2 * j) ≤ mo) ∧ -mo ≤ R (2 * j + 1) ∧ R (2 * j + 1) ≤ mo
open Classical in
theorem sg_ex9 (m : Mach) (HX HY : Nat → Int) (r : Int) : ∃ sg : Nat → Bool, ∀ k, (sg k = false ↔ ∀ x y, InBox (m.axX.ends k).1 (m.axX.ends k).2 (m.axY.ends k).1 (m.axY.ends k).2 x y → agreeB m.sn HX HY m.SX m.SY r x y = false) :=
 ⟨fun k => if (∀ x y, InBox (m.axX.ends k).1 (m.axX.ends k).2 (m.axY.ends k).1 (m.axY.ends k).2 x y → agreeB m.sn HX HY m.SX m.SY r x y = false) then false else true, fun k => by
  constructor
  ·intro h
   dsimp only at h
   split at h
   ·assumption
   ·cases h
  ·intro h
   dsimp only
   rw [if_pos h]⟩
theorem lt_snoc {P : Nat → Prop} {q : Nat} (h : ∀ j, j < q → P j) (hq : P q) : ∀ j, j < q + 1 → P j := fun j hj =>
 (Nat.lt_or_eq_of_le (Nat.le_of_lt_succ hj)).elim (h j) (fun e => by rw [e]; exact hq)
theorem put_snoc {n q qv : Nat} {H : Nat → Int × Int} {T : Nat → Int × Int} {qo : List Nat} {x y : Int} (h : ∀ j, j < q → H (qo.getD j 0) = T j) (ht : T q = (x, y)) (hdis : ∀ i j, i < n → j < i → qo.getD i 0 ≠ qo.getD j 0) (hq : q < n) (hv : qo.getD q 0 = qv) :
  ∀ j, j < q + 1 → putH H qv x y (qo.getD j 0) = T j := fun j hj => by
 unfold putH
 rcases Nat.lt_or_eq_of_le (Nat.le_of_lt_succ hj) with h1 | rfl
 ·rw [if_neg (by rw [← hv]; exact fun e => hdis q j hq h1 e.symm)]; exact h j h1
 ·rw [if_pos hv, ht]
theorem FX.put {w : World} {m : Mach} {a1 : Option Addr} {n1 c1 : Nat} {a2 : Option Addr} {n2 c2 : Nat} {gh gb : Nat} {mo : Int} {H : Nat → Int × Int} {W : World} (h : FX w m a1 n1 c1 a2 n2 c2 gh gb mo H W) {P : Nat} (h1 : gh < P) (h2 : gb < P) (u v : Value) : FX w m a1 n1 c1 a2 n2 c2 gh gb mo H ((W.setCell ⟨P, 0, none⟩ u).setCell ⟨P, 1, none⟩ v) := by
 have l1 := h.lo
 have hB : Below P W ((W.setCell ⟨P, 0, none⟩ u).setCell ⟨P, 1, none⟩ v) := ((Below.refl _ _).setCell (p := ⟨P, 0, none⟩) (Nat.le_refl _) u).setCell (p := ⟨P, 1, none⟩) (Nat.le_refl _) v
 exact ⟨h.mx.far (hB.mono (by omega)), h.h.below hB h1, (hB.cell (p := ⟨gb, 0, none⟩) h2).trans h.b0, (hB.cell (p := ⟨gb, 1, none⟩) h2).trans h.b1, h.lo, h.lo2, h.ne, by rw [World.size_setCell, World.size_setCell]; exact h.lh, by rw [World.size_setCell, World.size_setCell]; exact h.lb⟩
theorem who_found (m : Mach) (a1 : Option Addr) (c1 : Nat) (r : Int) (HX HY : Nat → Int) (k : Nat) (W : World) (hn : m.sn ≤ 1000) (hr : m.rn ≤ 1000) (hp : PSl W (.slice a1 m.sn c1) m.sn HX HY) (h : MIn W m) (hok : m.ok = true) (hc : m.can) (hbu : butB m.sn HX HY r = true)
  (sg : Nat → Bool) (hsg : ∀ k, (sg k = false ↔ ∀ x y, InBox (m.axX.ends k).1 (m.axX.ends k).2 (m.axY.ends k).1 (m.axY.ends k).2 x y → agreeB m.sn HX HY m.SX m.SY r x y = false)) (t1 : 1 ≤ k) (t2 : k ≤ 12) (hsk : sg k = true) :
  Calls Tryz.prog 18 #[.slice (some ⟨W.heap.size, 0, none⟩) 1 1, .agg #[.slice a1 m.sn c1, .int .i64 r]] (W.alloc (Obj.cells #[.slice m.sa m.sn m.sc, .int .i64 m.c0, .int .i64 m.c1, .int .i64 m.d0, .int .i64 m.d1, .int .i64 m.w0, .int .i64 m.w1, .int .i64 m.v0, .int .i64 m.v1, .slice m.ra m.rn m.rc] 27)) fun e w' => ∃ vg vc, e = .returned (.tuple #[.slice (some ⟨vg, 0, none⟩) 1 vc, .int .i64 0]) ∧ (w'.cell? ⟨vg, 0, none⟩ = some (.int .i64 0) ∧ vg < w'.heap.size) ∧ Below (W.alloc (Obj.cells #[.slice m.sa m.sn m.sc, .int .i64 m.c0, .int .i64 m.c1, .int .i64 m.d0, .int .i64 m.d1, .int .i64 m.w0, .int .i64 m.w1, .int .i64 m.v0, .int .i64 m.v1, .slice m.ra m.rn m.rc] 27)).heap.size (W.alloc (Obj.cells #[.slice m.sa m.sn m.sc, .int .i64 m.c0, .int .i64 m.c1, .int .i64 m.d0, .int .i64 m.d1, .int .i64 m.w0, .int .i64 m.w1, .int .i64 m.v0, .int .i64 m.v1, .slice m.ra m.rn m.rc] 27)) w' := by
 have hB : Below W.heap.size W (W.alloc (Obj.cells #[.slice m.sa m.sn m.sc, .int .i64 m.c0, .int .i64 m.c1, .int .i64 m.d0, .int .i64 m.d1, .int .i64 m.w0, .int .i64 m.w1, .int .i64 m.v0, .int .i64 m.v1, .slice m.ra m.rn m.rc] 27)) := (Below.refl _ _).alloc (Nat.le_refl _) _
 have hM : MLs (W.alloc (Obj.cells #[.slice m.sa m.sn m.sc, .int .i64 m.c0, .int .i64 m.c1, .int .i64 m.d0, .int .i64 m.d1, .int .i64 m.w0, .int .i64 m.w1, .int .i64 m.v0, .int .i64 m.v1, .slice m.ra m.rn m.rc] 27)) W.heap.size 0 1 (fun _ => m) := by
  refine ⟨fun i hi => ?_, fun i _ => h.below hB, by rw [World.size_alloc]; omega⟩
  obtain rfl : i = 0 := by omega
  have c := fun j u (hj : (#[.slice m.sa m.sn m.sc, .int .i64 m.c0, .int .i64 m.c1, .int .i64 m.d0, .int .i64 m.d1, .int .i64 m.w0, .int .i64 m.w1, .int .i64 m.v0, .int .i64 m.v1, .slice m.ra m.rn m.rc] : Array Value)[j]? = some u) => cells_new W #[.slice m.sa m.sn m.sc, .int .i64 m.c0, .int .i64 m.c1, .int .i64 m.d0, .int .i64 m.d1, .int .i64 m.w0, .int .i64 m.w1, .int .i64 m.v0, .int .i64 m.v1, .slice m.ra m.rn m.rc] 27 hj
  exact ⟨c 0 _ rfl, c 1 _ rfl, c 2 _ rfl, c 3 _ rfl, c 4 _ rfl, c 5 _ rfl, c 6 _ rfl, c 7 _ rfl, c 8 _ rfl, c 9 _ rfl⟩
 refine (Who_some W.heap.size 0 1 1 (fun _ => m) a1 m.sn c1 r HX HY (fun _ => sg) _ (Nat.le_refl _) (by decide) hn hM (fun _ _ => ⟨hn, hr⟩) (hp.below hB) (fun _ _ k _ => hsg k)).mono ?_
 rintro e w' ⟨hb, ⟨⟨i, _, h1⟩, rfl⟩ | ⟨_, ⟨i, _, h2⟩, rfl⟩ | ⟨_, _, v, rfl, hrow⟩⟩
 ·unfold fitB8 at h1; rw [hok, hbu, decide_eq_true rfl] at h1; cases h1
 ·exact absurd hc h2
 ·rw [who_one (seen_one (i := 0) t1 t2 hsk)] at hrow
  rcases IRow.of_own hrow with ⟨h3, _⟩ | ⟨g, c, rfl, hg, hcell⟩
  ·cases h3
  ·exact ⟨g, c, rfl, ⟨hcell 0 (by decide), hg⟩, hb⟩
theorem proves_found (m : Mach) (a1 : Option Addr) (c1 : Nat) (r : Int) (HX HY : Nat → Int) (k ko : Nat) (F G : Nat → Int) (W : World) (hn : m.sn ≤ 1000) (hr : m.rn ≤ 1000) (hp : PSl W (.slice a1 m.sn c1) m.sn HX HY) (h : MIn W m) (hok : m.ok = true) (hc : m.can) (hbu : butB m.sn HX HY r = true) (t1 : 1 ≤ k) (t2 : k ≤ 12) (t3 : ko ≤ 12) (hF : m.axX.truth F) (hG : m.axY.truth G) (hag : agreeB m.sn HX HY m.SX m.SY r (F k) (G k) = true) :
  Calls Tryz.prog 19 #[m.val, .agg #[.slice a1 m.sn c1, .int .i64 r], .int .i64 k, .int .i64 ko] W fun e w' => ∃ p0 p1 r0 r1, e = .returned (.tuple #[.agg #[.int .i64 p0, .int .i64 p1], .agg #[.int .i64 r0, .int .i64 r1], .int .i64 0]) ∧ ((p0 ≤ F ko ∧ F ko ≤ p1) ∧ r0 ≤ G ko ∧ G ko ≤ r1) ∧ Below W.heap.size W w' := by
 refine (Proves_ok a1 c1 r HX HY m k ko W hn (by omega) hp h hok hc hbu t1 t2 t3).mono ?_
 rintro e w' ⟨PL, hPL, hres, hb⟩
 obtain ⟨hcw, hx, hy⟩ := found_proves hok hF hG t2 t3 hPL hag
 rcases hres with ⟨_, rfl⟩ | ⟨hno, _⟩
 ·exact ⟨_, _, _, _, rfl, ⟨hx, hy⟩, hb⟩
 ·exact absurd hcw hno
theorem same_found (vg vc : Nat) (W : World) (h : W.cell? ⟨vg, 0, none⟩ = some (.int .i64 0) ∧ vg < W.heap.size) :
  Calls Tryz.prog 21 #[.slice (some ⟨vg, 0, none⟩) 1 vc, .slice (some ⟨W.heap.size, 0, none⟩) 1 1] (W.alloc (Obj.cells #[.int .i64 0] 3)) fun e w' => e = .returned (.bool true) ∧ Below (W.alloc (Obj.cells #[.int .i64 0] 3)).heap.size (W.alloc (Obj.cells #[.int .i64 0] 3)) w' := by
 have hB : Below W.heap.size W (W.alloc (Obj.cells #[.int .i64 0] 3)) := (Below.refl _ _).alloc (Nat.le_refl _) _
 refine same_some vg 0 1 vc W.heap.size 0 1 (fun _ => 0) _ (by decide) (fun i hi => ?_) (fun i hi => ?_)
 ·obtain rfl : i = 0 := by omega
  exact (hB.cell (p := ⟨vg, 0, none⟩) h.2).trans h.1
 ·obtain rfl : i = 0 := by omega
  exact cells_new W _ _ rfl
theorem held_two {vg : Nat} {W : World} (h : W.cell? ⟨vg, 0, none⟩ = some (.int .i64 0) ∧ vg < W.heap.size) {W' : World} (hb : Below W.heap.size W W') : W'.cell? ⟨vg, 0, none⟩ = some (.int .i64 0) ∧ vg < W'.heap.size := ⟨(hb.cell (p := ⟨vg, 0, none⟩) h.2).trans h.1, Nat.lt_of_lt_of_le h.2 hb.size⟩
theorem below_two (W : World) (o1 o2 : Obj) : Below W.heap.size W ((W.alloc o1).alloc o2) := ((Below.refl _ _).alloc (Nat.le_refl _) o1).alloc (by rw [World.size_alloc]; omega) o2
set_option maxRecDepth 100000 in
set_option maxHeartbeats 16000000 in
/-- what is proposed is a truth. -/
theorem found_fit (m : Mach) (a1 : Option Addr) (n1 c1 : Nat) (a2 : Option Addr) (n2 c2 : Nat) (F G : Nat → Int) (bk tn : Int) (a3 : Option Addr) (n3 c3 : Nat) (Q : Nat → Int) (a4 : Option Addr) (n4 c4 : Nat) (R : Nat → Int) (mo ot : Int) (w : World) (hk : KG w) (hc1 : n1 ≤ c1) (hc2 : n2 ≤ c2) (h : MIn w m) (hF : IntsSl w (.slice a1 n1 c1) n1 F) (hG : IntsSl w (.slice a2 n2 c2) n2 G) (hQ : IntsSl w (.slice a3 n3 c3) n3 Q) (hR : IntsSl w (.slice a4 n4 c4) n4 R) (g : FoundOk m n1 n2 F G bk tn n3 Q n4 mo ot) (hyes : (m.axX.holdB F && m.axY.holdB G) = true) :
  Calls Tryz.prog 3 #[m.val, .agg #[.slice a1 n1 c1, .slice a2 n2 c2], .int .i64 bk, .int .i64 tn, .slice a3 n3 c3, .slice a4 n4 c4, .int .i64 mo, .int .i64 ot] w fun e w' => e = .returned (.bool true) ∧ Below w.heap.size w w' := by
 obtain ⟨W0, hW⟩ : ∃ W0, (w.alloc (.cells #[.slice m.sa m.sn m.sc, .int .i64 m.c0, .int .i64 m.c1, .int .i64 m.d0, .int .i64 m.d1, .int .i64 m.w0, .int .i64 m.w1, .int .i64 m.v0, .int .i64 m.v1, .slice m.ra m.rn m.rc] 27)).alloc (.cells #[.slice a1 n1 c1, .slice a2 n2 c2] 30) = W0 := ⟨_, rfl⟩
 have hX : MX w W0 m a1 n1 c1 a2 n2 c2 := by rw [← hW]; exact MX.new w m a1 n1 c1 a2 n2 c2
 obtain ⟨g1, g2, l5, l6, hok, g6, g7, g8, g9, g10, l11, l12, l13⟩ := g
 obtain ⟨l1, l2⟩ : m.sn ≤ 6 ∧ m.rn ≤ 6 := by simpa using g1
 obtain ⟨l3, l4⟩ : n1 ≤ 15 ∧ n2 ≤ 15 := by simpa using g2
 obtain ⟨ho1, ho2⟩ : offB n1 F = true ∧ offB n2 G = true := by simpa using g6
 have hsl := fun (W : World) => slim_any m W (by omega) (by omega)
 have hbr := fun (W : World) => brief_any a1 n1 c1 a2 n2 c2 W (by omega) (by omega)
 rw [g1] at hsl
 rw [g2] at hbr
 have hma := fun (W : World) (hB : Below w.heap.size w W) => rmachine_any m W (by omega) (by omega) (h.below hB)
 rw [hok] at hma
 have htr := fun (W : World) (hB : Below w.heap.size w W) => rtruth_any a1 n1 c1 a2 n2 c2 F G W (by omega) (by omega) (isl_below hF hB) (isl_below hG hB)
 rw [g6] at htr
 have hor := fun (W : World) (hB : Below w.heap.size w W) => order_any (.slice a3 n3 c3) n3 Q m.sn W (by omega) (by omega) (by omega) (isl_below hQ hB)
 rw [g10] at hor
 have hba := fun (W : World) => rblank_any bk 1 W
 rw [g7] at hba
 have hbo := fun (W : World) => rblank_any ot 0 W
 rw [g8] at hbo
 have htu := fun (W : World) => turns_in tn W
 rw [g9] at htu
 have hfi := fun (W : World) (hB : Below w.heap.size w W) => Fits_yes m a1 n1 c1 a2 n2 c2 F G W (by omega) (by omega) (h.below hB) (by omega) (by omega) (isl_below hF hB) (isl_below hG hB) hok ho1 ho2 hc1 hc2
 have c3' : ¬ (6 : Int) < (n3 : Int) := by omega
 have c4' : ¬ (12 : Int) < (n4 : Int) := by omega
 have hw2 : IntKind.i64.wrap (2 * (m.sn : Int)) = 2 * (m.sn : Int) := IntWalk.i64_in _ (by omega)
 have c11 : (n4 : Int) = 2 * (m.sn : Int) := by omega
 have c12 : ¬ mo < 0 := by omega
 have c13 : ¬ 4 < mo := by omega
 rw [hyes] at hfi
 obtain ⟨hs2, hs4, hS⟩ := stops_in hok
 obtain ⟨A, hA, hmk⟩ := make_points m.sn hs4
 obtain ⟨b1, o1, hsa, lsb, pS⟩ : ∃ sb so, m.sa = some ⟨sb, so, none⟩ ∧ sb < w.heap.size ∧ Pts w sb so m.sn m.SX m.SY := by
  rcases h.stops with ⟨a, c, e1, e2⟩ | ⟨sb, so, c, e1, e2, e3⟩
  ·omega
  ·rw [Value.slice.injEq] at e1; exact ⟨sb, so, e1.1, e2, e3⟩
 replace hsa := PLift.up hsa
 obtain ⟨⟨q0, q1, q2, q3, q4, q5, q6, q7, q8, q9⟩, y0, y1, _, _⟩ := id hX
 subst l11
 clear g1 g2 g6
 go_enter Tryz.func3, Tryz.ntmps3
 go_wp2_with (first
  | (go_at_call 5; with_reducible refine (hsl _).mono ?_; rintro e w1 ⟨rfl, hb⟩; replace hX := hX.below hb; obtain ⟨⟨q0, q1, q2, q3, q4, q5, q6, q7, q8, q9⟩, y0, y1, _, _⟩ := id hX)
  | (go_at_call 6; with_reducible refine (hbr _).mono ?_; rintro e w1 ⟨rfl, hb⟩; replace hX := hX.below hb; obtain ⟨⟨q0, q1, q2, q3, q4, q5, q6, q7, q8, q9⟩, y0, y1, _, _⟩ := id hX)
  | (go_at_call 7; with_reducible refine (hma _ hX.old).mono ?_; rintro e w1 ⟨rfl, hb⟩; replace hX := hX.below hb; obtain ⟨⟨q0, q1, q2, q3, q4, q5, q6, q7, q8, q9⟩, y0, y1, _, _⟩ := id hX)
  | (go_at_call 8; with_reducible refine (htr _ hX.old).mono ?_; rintro e w1 ⟨rfl, hb⟩; replace hX := hX.below hb; obtain ⟨⟨q0, q1, q2, q3, q4, q5, q6, q7, q8, q9⟩, y0, y1, _, _⟩ := id hX)
  | (go_at_call 9; with_reducible refine (hba _).mono ?_; rintro e w1 ⟨rfl, rfl⟩)
  | (go_at_call 9; with_reducible refine (hbo _).mono ?_; rintro e w1 ⟨rfl, rfl⟩)
  | (go_at_call 10; with_reducible refine (htu _).mono ?_; rintro e w1 ⟨rfl, rfl⟩)
  | (go_at_call 11; with_reducible refine (hor _ hX.old).mono ?_; rintro e w1 ⟨rfl, hb⟩; replace hX := hX.below hb; obtain ⟨⟨q0, q1, q2, q3, q4, q5, q6, q7, q8, q9⟩, y0, y1, _, _⟩ := id hX)
  | (go_at_call 13; with_reducible refine (hfi _ hX.old).mono ?_; rintro e w1 ⟨rfl, hb⟩; replace hX := hX.below hb; obtain ⟨⟨q0, q1, q2, q3, q4, q5, q6, q7, q8, q9⟩, y0, y1, _, _⟩ := id hX))
 clear hsl hbr hma htr hor hba hbo htu hfi hmk q0 q1 q2 q3 q4 q5 q6 q7 q8 q9 y0 y1 hW
 replace hX := FX.new (mo := mo) A 43 41 hA hX
 obtain ⟨gh, hgh⟩ : ∃ x, w1.heap.size = x := ⟨_, rfl⟩
 simp only [hgh] at hX ⊢
 obtain ⟨gb, hgb⟩ : ∃ x, gh + 1 = x := ⟨_, rfl⟩
 simp only [hgb] at hX ⊢
 clear hgb hgh hA
 obtain ⟨e1, r1⟩ := offB_iff.1 ho1
 obtain ⟨e2, r2⟩ := offB_iff.1 ho2
 subst e1
 subst e2
 rw [Bool.and_eq_true, Axis.holdB_iff, Axis.holdB_iff] at hyes
 obtain ⟨hFt, hGt⟩ := hyes
 obtain ⟨bF, oF, rfl, lF, pF⟩ := ints_at hF (by omega)
 obtain ⟨bG, oG, rfl, lG, pG⟩ := ints_at hG (by omega)
 obtain ⟨hin3, hq3⟩ : n3 = m.sn ∧ True := ⟨by have := g10; unfold ordB at this; simp only [Bool.and_eq_true, decide_eq_true_eq] at this; omega, trivial⟩
 subst hin3
 obtain ⟨bQ, oQ, rfl, lQ, pQ⟩ := ints_at hQ (by omega)
 obtain ⟨bR, oR, rfl, lR, pR⟩ := ints_at hR (by omega)
 obtain ⟨qo, hqo, hQq⟩ := ordB_ords hs2 hs4 g10
 have i7 := inB_iff.1 g7
 have i8 := inB_iff.1 g8
 have i9 := inB_iff.1 g9
 obtain ⟨k, rfl⟩ : ∃ k : Nat, bk = (k : Int) := ⟨bk.toNat, by omega⟩
 obtain ⟨ko, rfl⟩ : ∃ k : Nat, ot = (k : Int) := ⟨ot.toNat, by omega⟩
 obtain ⟨t, rfl⟩ : ∃ k : Nat, tn = (k : Int) := ⟨tn.toNat, by omega⟩
 obtain ⟨t1, t2⟩ : 1 ≤ k ∧ k ≤ 12 := by omega
 have t3 : ko ≤ 12 := by omega
 have t4 : t < 8 := by omega
 have iF := Axis.ends_in (Mach.fineX hok) hFt k t2
 have iG := Axis.ends_in (Mach.fineY hok) hGt k t2
 have bX := Axis.any_bound (Mach.fineX hok) k t2
 have bY := Axis.any_bound (Mach.fineY hok) k t2
 have fk : -48 ≤ F k ∧ F k ≤ 48 := by omega
 have gk : -48 ≤ G k ∧ G k ≤ 48 := by omega
 have hoo := ords_ordB hs2 hs4 qo hqo
 unfold ordB at hoo
 simp only [Bool.and_eq_true, decide_eq_true_eq] at hoo
 have hdis : Hid (∀ i j, i < m.sn → j < i → qo.getD i 0 ≠ qo.getD j 0) := ⟨fun i j hi hj e => (hoo.1 i hi).1 j hj (by rw [e])⟩
 have hqlt : Hid (∀ i, i < m.sn → qo.getD i 0 < m.sn) := ⟨fun i hi => by have := inB_iff.1 (hoo.1 i hi).2; omega⟩
 clear hoo
 clear iF iG bX bY r1 r2 g7 g8 g9 g10 hF hG hQ hR i7 i8 i9 ho1 ho2 hq3
 replace hX := Hid.mk hX
 replace fk := Hid.mk fk
 replace gk := Hid.mk gk
 replace hsm := hS
 go_loopw [20] (fun i wr => ∃ (q : Nat) (H : Nat → Int × Int), q ≤ m.sn ∧ i = .int .i64 q ∧ Hid (FX w m (some ⟨bF, oF, none⟩) 13 c1 (some ⟨bG, oG, none⟩) 13 c2 gh gb mo H wr) ∧ Hid ((∀ j, j < q → okErrs R mo j) ∧ ∀ j, j < q → H (qo.getD j 0) = holeX m F G R k t j)) (fun i _ => m.sn - (intOf i).toNat)
 case atStart => exact ⟨0, _, Nat.zero_le _, rfl, hX, ⟨fun j h => absurd h (Nat.not_lt_zero j), fun j h => absurd h (Nat.not_lt_zero j)⟩⟩
 case round =>
  clear hX
  obtain ⟨q, H, hq, rfl, hX, hRQ⟩ := hrel
  rename World => wz
  have hq0 : (0 : Int) ≤ (q : Int) := Int.natCast_nonneg _
  have y0 := hX.down.mx.mach.k0
  rw [hsa.down] at y0
  by_cases hlq : q < m.sn
  ·have hq1 : (q : Int) < (m.sn : Int) := by omega
   have u1 : IntKind.i64.wrap (2 * (q : Int)) = 2 * (q : Int) := IntWalk.i64_in _ (by omega)
   have u2 : IntKind.i64.wrap (2 * (q : Int) + 1) = 2 * (q : Int) + 1 := IntWalk.i64_in _ (by omega)
   have u3 : IntKind.i64.wrap (-mo) = -mo := IntWalk.i64_in _ (by omega)
   have u4 : 2 * (q : Int) < 2 * (m.sn : Int) := by omega
   have u5 : 2 * (q : Int) + 1 < 2 * (m.sn : Int) := by omega
   have u6 : (0 : Int) ≤ 2 * (q : Int) := by omega
   have u7' : (0 : Int) ≤ 2 * (q : Int) + 1 := by omega
   have hE : ∀ W, Below w.heap.size w W → W.cell? ⟨bR, oR + 2 * q, none⟩ = some (.int .i64 (R (2 * q))) ∧ W.cell? ⟨bR, oR + (2 * q + 1), none⟩ = some (.int .i64 (R (2 * q + 1))) := fun W hW => ⟨(hW.cell (p := ⟨bR, oR + 2 * q, none⟩) lR).trans (pR _ (by omega)), (hW.cell (p := ⟨bR, oR + (2 * q + 1), none⟩) lR).trans (pR _ (by omega))⟩
   have z5 := (hE wz hX.down.mx.old).1
   have z6 := (hE wz hX.down.mx.old).2
   by_cases d1 : R (2 * q) < -mo
   ·skip
    go_wp2_with (first
     | (go_at_call 12; with_reducible refine (known_ok _ (hk.below hX.down.mx.old)).mono ?_; rintro e w2 ⟨rfl, hb2⟩))
    go_ret
    exact ⟨rfl, hX.down.mx.old.trans (hb2.mono hX.down.mx.old.size)⟩
   by_cases d2 : mo < R (2 * q)
   ·skip
    go_wp2_with (first
     | (go_at_call 12; with_reducible refine (known_ok _ (hk.below hX.down.mx.old)).mono ?_; rintro e w2 ⟨rfl, hb2⟩))
    go_ret
    exact ⟨rfl, hX.down.mx.old.trans (hb2.mono hX.down.mx.old.size)⟩
   by_cases d3 : R (2 * q + 1) < -mo
   ·skip
    go_wp2_with (first
     | (go_at_call 12; with_reducible refine (known_ok _ (hk.below hX.down.mx.old)).mono ?_; rintro e w2 ⟨rfl, hb2⟩))
    go_ret
    exact ⟨rfl, hX.down.mx.old.trans (hb2.mono hX.down.mx.old.size)⟩
   by_cases d4 : mo < R (2 * q + 1)
   ·skip
    go_wp2_with (first
     | (go_at_call 12; with_reducible refine (known_ok _ (hk.below hX.down.mx.old)).mono ?_; rintro e w2 ⟨rfl, hb2⟩))
    go_ret
    exact ⟨rfl, hX.down.mx.old.trans (hb2.mono hX.down.mx.old.size)⟩
   go_wp2_with fail
   clear z5 z6 y0
   have cS : ∀ W, Below w.heap.size w W → W.cell? ⟨b1, o1 + q * 2, none⟩ = some (.int .i64 (m.SX q)) ∧ W.cell? ⟨b1, o1 + q * 2 + 1, none⟩ = some (.int .i64 (m.SY q)) := fun W hW => ⟨(hW.cell (p := ⟨b1, o1 + q * 2, none⟩) lsb).trans (pS q hlq).1, (hW.cell (p := ⟨b1, o1 + q * 2 + 1, none⟩) lsb).trans (pS q hlq).2⟩
   have cF : ∀ W, Below w.heap.size w W → W.cell? ⟨bF, oF + k, none⟩ = some (.int .i64 (F k)) := fun W hW => (hW.cell (p := ⟨bF, oF + k, none⟩) lF).trans (pF k (by omega))
   have cG : ∀ W, Below w.heap.size w W → W.cell? ⟨bG, oG + k, none⟩ = some (.int .i64 (G k)) := fun W hW => (hW.cell (p := ⟨bG, oG + k, none⟩) lG).trans (pG k (by omega))
   obtain ⟨s1, s2⟩ := hS q hlq
   have fk' := fk.down
   have gk' := gk.down
   have wa : IntKind.i64.wrap (m.SX q + F k) = m.SX q + F k := IntWalk.i64_in _ (by omega)
   have wb : IntKind.i64.wrap (m.SY q + G k) = m.SY q + G k := IntWalk.i64_in _ (by omega)
   have hk0 : (0 : Int) ≤ (k : Int) := Int.natCast_nonneg _
   have hk1 : (k : Int) < 13 := by omega
   have hT := fun W => rturn_any t t4 (m.SX q + F k) (m.SY q + G k) (by omega) (by omega) (by omega) (by omega) W
   obtain ⟨⟨v1, v2⟩, v3, v4⟩ := trn_small (t := t) (p := (m.SX q + F k, m.SY q + G k)) ⟨by dsimp only; omega, by dsimp only; omega⟩
   generalize hpx : (trn t (m.SX q + F k, m.SY q + G k)).1 = px at *
   generalize hpy : (trn t (m.SX q + F k, m.SY q + G k)).2 = py at *
   replace hpx := Hid.mk hpx
   replace hpy := Hid.mk hpy
   clear s1 s2 fk' gk'
   rename_i Q' K hKK
   refine (fun (fin : ∀ (P : Nat) (VV : World), FX w m (some ⟨bF, oF, none⟩) 13 c1 (some ⟨bG, oG, none⟩) 13 c2 gh gb mo H VV → Two VV P px py → gh < P → gb < P → P < VV.heap.size → K ((?F : Nat → Act) P) VV) => ?leafs) ?fin
   case leafs =>
    refine wp_region_late [] (fun w9 => FX w m (some ⟨bF, oF, none⟩) 13 c1 (some ⟨bG, oG, none⟩) 13 c2 gh gb mo H w9) (fun w9 => True) (by kernel_rfl) ?_ (fun hHeld => ?_)
    ·(exact ⟨hX.down.drew, trivial⟩)
    generalize wz.drew = V at hHeld ⊢
    refine tk1 0 rfl hHeld ?_
    refine tk2 1 rfl (by (intro w9 hSw; have z0 := hSw.mx.mach.k0; rw [hsa.down] at z0; clear hSw; go_simp) <;> with_reducible rfl) hHeld ?_
    refine tk1 2 rfl hHeld ?_
    refine tk1 3 rfl hHeld ?_
    refine tk1 4 rfl hHeld ?_
    refine tk2 5 rfl (by (intro w9 hSw; have z0 := (cS w9 hSw.mx.old).1; clear hSw; go_simp) <;> with_reducible rfl) hHeld ?_
    refine tk1 6 rfl hHeld ?_
    refine tk2 7 rfl (by (intro w9 hSw; have z0 := hSw.mx.x0; clear hSw; go_simp) <;> with_reducible rfl) hHeld ?_
    refine tk1 8 rfl hHeld ?_
    refine tk1 9 rfl hHeld ?_
    refine tk2 10 rfl (by (intro w9 hSw; have z0 := cF w9 hSw.mx.old; clear hSw; go_simp) <;> with_reducible rfl) hHeld ?_
    refine tk1 11 rfl hHeld ?_
    refine tk1 12 rfl hHeld ?_
    refine tk2 13 rfl (by (intro w9 hSw; have z0 := hSw.mx.mach.k0; rw [hsa.down] at z0; clear hSw; go_simp) <;> with_reducible rfl) hHeld ?_
    refine tk1 14 rfl hHeld ?_
    refine tk1 15 rfl hHeld ?_
    refine tk1 16 rfl hHeld ?_
    refine tk2 17 rfl (by (intro w9 hSw; have z0 := (cS w9 hSw.mx.old).2; clear hSw; go_simp) <;> with_reducible rfl) hHeld ?_
    refine tk1 18 rfl hHeld ?_
    refine tk2 19 rfl (by (intro w9 hSw; have z0 := hSw.mx.x1; clear hSw; go_simp) <;> with_reducible rfl) hHeld ?_
    refine tk1 20 rfl hHeld ?_
    refine tk1 21 rfl hHeld ?_
    refine tk2 22 rfl (by (intro w9 hSw; have z0 := cG w9 hSw.mx.old; clear hSw; go_simp) <;> with_reducible rfl) hHeld ?_
    refine tk1 23 rfl hHeld ?_
    refine tk1 25 rfl hHeld ?_
    refine wpAnyP_ready (rs := [24, 27]) (by kernel_rfl) (by simp) ?_
    refine AllReadyP.cons (o := _) rfl (fun K hK => ?_) (AllReadyP.cons (o := _) rfl (fun K hK => ?_) AllReadyP.nil)
    ·go_simp
     (go_at_call 15; with_reducible refine (lat_any _ _ _).mono ?_; rintro e w24 ⟨rfl, hb24⟩)
     have hK18 := hHeld.1.below hb24
     clear hb24
     refine hK.out _ _ ?_ (fun hHeld => ?_)
     ·(exact ⟨hK18, trivial⟩)
     clear hK K
     (try simp only [Act.put, xpA, xpZ, xpS])
     refine wpAnyP_ready (rs := [26, 27]) (by kernel_rfl) (by simp) ?_
     refine AllReadyP.cons (o := _) rfl (fun K hK => ?_) (AllReadyP.cons (o := _) rfl (fun K hK => ?_) AllReadyP.nil)
     ·go_simp
      (go_at_call 14; with_reducible refine (hT _).mono ?_; rintro e w26 ⟨rfl, hb26⟩)
      have hK18 := hHeld.1.below hb26
      clear hb26
      refine hK.out _ _ ?_ (fun hHeld => ?_)
      ·(exact ⟨hK18, trivial⟩)
      clear hK K
      (try simp only [Act.put, xpA, xpZ, xpS])
      refine rd1 27 rfl (fun K hK => ?_)
      go_simp
      have hgP := hHeld.1.lh
      have hgB := hHeld.1.lb
      have hbn : Below w26.heap.size w26 (w26.alloc (Obj.cells #[.int .i64 0, .int .i64 0] 43)) := (Below.refl _ _).alloc (Nat.le_refl _) _
      have hP := Two.new w26 43 0 0
      have ltP : w26.heap.size < (w26.alloc (Obj.cells #[.int .i64 0, .int .i64 0] 43)).heap.size := by rw [World.size_alloc]; omega
      have hK18 := hHeld.1.below hbn
      clear hbn
      generalize (w26.alloc (Obj.cells #[.int .i64 0, .int .i64 0] 43)) = VP at hP ltP hK18 ⊢
      generalize w26.heap.size = P at hgP hgB hP ltP ⊢
      refine hK.out _ _ ?_ (fun hHeld => ?_)
      ·(exact ⟨hK18, trivial⟩)
      clear hK K
      (try simp only [Act.put, xpA, xpZ, xpS])
      refine rd1 28 rfl (fun K hK => ?_)
      have c0 := hP.k0
      have c1 := hP.k1
      have y0 := hP.f0
      have y1 := hP.f1
      go_simp
      clear c0 c1 y0 y1
      have hK18 := FX.put hHeld.1 hgP hgB (.int .i64 px) (.int .i64 py)
      replace hP := hP.set01 px py
      refine hK.out _ _ ?_ (fun hHeld => ?_)
      ·(exact ⟨hK18, trivial⟩)
      clear hK K
      (try simp only [Act.put, xpA, xpZ, xpS])
      refine wpAnyP_done (by kernel_rfl) ?_ _
      (try simp only [Act.put, List.getElem_toArray, List.getElem_cons_zero, List.getElem_cons_succ, xpA, xpZ, xpS])
      exact fin P _ hHeld.1 hP hgP hgB (by simpa only [World.size_setCell] using ltP)
     ·go_simp
      have hgP := hHeld.1.lh
      have hgB := hHeld.1.lb
      have hbn : Below w24.heap.size w24 (w24.alloc (Obj.cells #[.int .i64 0, .int .i64 0] 43)) := (Below.refl _ _).alloc (Nat.le_refl _) _
      have hP := Two.new w24 43 0 0
      have ltP : w24.heap.size < (w24.alloc (Obj.cells #[.int .i64 0, .int .i64 0] 43)).heap.size := by rw [World.size_alloc]; omega
      have hK18 := hHeld.1.below hbn
      clear hbn
      generalize (w24.alloc (Obj.cells #[.int .i64 0, .int .i64 0] 43)) = VP at hP ltP hK18 ⊢
      generalize w24.heap.size = P at hgP hgB hP ltP ⊢
      refine hK.out _ _ ?_ (fun hHeld => ?_)
      ·(exact ⟨hK18, trivial⟩)
      clear hK K
      (try simp only [Act.put, xpA, xpZ, xpS])
      refine rd1 26 rfl (fun K hK => ?_)
      go_simp
      (go_at_call 14; with_reducible refine (hT _).mono ?_; rintro e w26 ⟨rfl, hb26⟩)
      have hK18 := hHeld.1.below hb26
      replace hP := hP.below hb26 ltP
      replace ltP := Nat.lt_of_lt_of_le ltP hb26.size
      clear hb26
      refine hK.out _ _ ?_ (fun hHeld => ?_)
      ·(exact ⟨hK18, trivial⟩)
      clear hK K
      (try simp only [Act.put, xpA, xpZ, xpS])
      refine rd1 28 rfl (fun K hK => ?_)
      have c0 := hP.k0
      have c1 := hP.k1
      have y0 := hP.f0
      have y1 := hP.f1
      go_simp
      clear c0 c1 y0 y1
      have hK18 := FX.put hHeld.1 hgP hgB (.int .i64 px) (.int .i64 py)
      replace hP := hP.set01 px py
      refine hK.out _ _ ?_ (fun hHeld => ?_)
      ·(exact ⟨hK18, trivial⟩)
      clear hK K
      (try simp only [Act.put, xpA, xpZ, xpS])
      refine wpAnyP_done (by kernel_rfl) ?_ _
      (try simp only [Act.put, List.getElem_toArray, List.getElem_cons_zero, List.getElem_cons_succ, xpA, xpZ, xpS])
      exact fin P _ hHeld.1 hP hgP hgB (by simpa only [World.size_setCell] using ltP)
    ·go_simp
     have hgP := hHeld.1.lh
     have hgB := hHeld.1.lb
     have hbn : Below V.heap.size V (V.alloc (Obj.cells #[.int .i64 0, .int .i64 0] 43)) := (Below.refl _ _).alloc (Nat.le_refl _) _
     have hP := Two.new V 43 0 0
     have ltP : V.heap.size < (V.alloc (Obj.cells #[.int .i64 0, .int .i64 0] 43)).heap.size := by rw [World.size_alloc]; omega
     have hK18 := hHeld.1.below hbn
     clear hbn
     generalize (V.alloc (Obj.cells #[.int .i64 0, .int .i64 0] 43)) = VP at hP ltP hK18 ⊢
     generalize V.heap.size = P at hgP hgB hP ltP ⊢
     refine hK.out _ _ ?_ (fun hHeld => ?_)
     ·(exact ⟨hK18, trivial⟩)
     clear hK K
     (try simp only [Act.put, xpA, xpZ, xpS])
     refine rd1 24 rfl (fun K hK => ?_)
     go_simp
     (go_at_call 15; with_reducible refine (lat_any _ _ _).mono ?_; rintro e w24 ⟨rfl, hb24⟩)
     have hK18 := hHeld.1.below hb24
     replace hP := hP.below hb24 ltP
     replace ltP := Nat.lt_of_lt_of_le ltP hb24.size
     clear hb24
     refine hK.out _ _ ?_ (fun hHeld => ?_)
     ·(exact ⟨hK18, trivial⟩)
     clear hK K
     (try simp only [Act.put, xpA, xpZ, xpS])
     refine rd1 26 rfl (fun K hK => ?_)
     go_simp
     (go_at_call 14; with_reducible refine (hT _).mono ?_; rintro e w26 ⟨rfl, hb26⟩)
     have hK18 := hHeld.1.below hb26
     replace hP := hP.below hb26 ltP
     replace ltP := Nat.lt_of_lt_of_le ltP hb26.size
     clear hb26
     refine hK.out _ _ ?_ (fun hHeld => ?_)
     ·(exact ⟨hK18, trivial⟩)
     clear hK K
     (try simp only [Act.put, xpA, xpZ, xpS])
     refine rd1 28 rfl (fun K hK => ?_)
     have c0 := hP.k0
     have c1 := hP.k1
     have y0 := hP.f0
     have y1 := hP.f1
     go_simp
     clear c0 c1 y0 y1
     have hK18 := FX.put hHeld.1 hgP hgB (.int .i64 px) (.int .i64 py)
     replace hP := hP.set01 px py
     refine hK.out _ _ ?_ (fun hHeld => ?_)
     ·(exact ⟨hK18, trivial⟩)
     clear hK K
     (try simp only [Act.put, xpA, xpZ, xpS])
     refine wpAnyP_done (by kernel_rfl) ?_ _
     (try simp only [Act.put, List.getElem_toArray, List.getElem_cons_zero, List.getElem_cons_succ, xpA, xpZ, xpS])
     exact fin P _ hHeld.1 hP hgP hgB (by simpa only [World.size_setCell] using ltP)
   case fin =>
    intro P VV hXP hPP hgP hgB ltP
    refine hKK _ _ ?_
    have hqv : qo.getD q 0 < m.sn := hqlt.down q hlq
    have cQ : ∀ W, Below w.heap.size w W → W.cell? ⟨bQ, oQ + q, none⟩ = some (.int .i64 ((qo.getD q 0 : Nat) : Int)) := fun W hW => (hW.cell (p := ⟨bQ, oQ + q, none⟩) lQ).trans ((pQ q hlq).trans (by rw [hQq q hlq]))
    have hqvd : Hid (qo.getD q 0 = qo.getD q 0) := ⟨rfl⟩
    obtain ⟨qv, hqq⟩ : ∃ x, qo.getD q 0 = x := ⟨_, rfl⟩
    rw [hqq] at hqv
    simp only [hqq] at cQ
    replace hqvd : Hid (qo.getD q 0 = qv) := ⟨hqq⟩
    clear hqq
    have hE2 : ∀ W, Below w.heap.size w W → W.cell? ⟨bR, oR + (2 * (q : Int)).toNat, none⟩ = some (.int .i64 (R (2 * q))) ∧ W.cell? ⟨bR, oR + (2 * (q : Int) + 1).toNat, none⟩ = some (.int .i64 (R (2 * q + 1))) := fun W hW => by
     rw [show (2 * (q : Int)).toNat = 2 * q by omega, show (2 * (q : Int) + 1).toNat = 2 * q + 1 by omega]
     exact hE W hW
    clear hE
    have hqv0 : (0 : Int) ≤ (qv : Int) := Int.natCast_nonneg _
    have hqv1 : (qv : Int) < (m.sn : Int) := by omega
    have hPne : P ≠ gh := by omega
    have wc : IntKind.i64.wrap (px + R (2 * q)) = px + R (2 * q) := IntWalk.i64_in _ (by omega)
    have wd : IntKind.i64.wrap (py + R (2 * q + 1)) = py + R (2 * q + 1) := IntWalk.i64_in _ (by omega)
    go_wp2_with fail
    refine wp_region_late [] (fun w9 => (∃ H', FX w m (some ⟨bF, oF, none⟩) 13 c1 (some ⟨bG, oG, none⟩) 13 c2 gh gb mo H' w9) ∧ Two w9 P px py) (fun w9 => True) (by kernel_rfl) ?_ (fun hHeld => ?_)
    ·(exact ⟨⟨⟨H, hXP.drew⟩, hPP.drew⟩, trivial⟩)
    replace hXP := hXP.drew
    have ltV : P < VV.drew.heap.size := ltP
    generalize VV.drew = V2 at hHeld hXP ltV ⊢
    have hXV := hXP
    refine tk0 0 ?_ rfl (Or.inl ⟨by rfl, ?_⟩) hHeld ?_
    rotate_left 1
    ·((intro w9 hSw; clear hSw; go_simp) <;> with_reducible rfl)
    (try simp only [Act.put, List.getElem_toArray, List.getElem_cons_zero, List.getElem_cons_succ, xpA, xpZ, xpS])
    refine tk0 1 ?_ rfl (Or.inl ⟨by rfl, ?_⟩) hHeld ?_
    rotate_left 1
    ·((intro w9 hSw; have z0 := hSw.1.choose_spec.b0; clear hSw; go_simp) <;> with_reducible rfl)
    (try simp only [Act.put, List.getElem_toArray, List.getElem_cons_zero, List.getElem_cons_succ, xpA, xpZ, xpS])
    refine tk0 2 ?_ rfl (Or.inl ⟨by rfl, ?_⟩) hHeld ?_
    rotate_left 1
    ·((intro w9 hSw; clear hSw; go_simp) <;> with_reducible rfl)
    (try simp only [Act.put, List.getElem_toArray, List.getElem_cons_zero, List.getElem_cons_succ, xpA, xpZ, xpS])
    refine tk0 3 ?_ rfl (Or.inl ⟨by rfl, ?_⟩) hHeld ?_
    rotate_left 1
    ·((intro w9 hSw; clear hSw; go_simp) <;> with_reducible rfl)
    (try simp only [Act.put, List.getElem_toArray, List.getElem_cons_zero, List.getElem_cons_succ, xpA, xpZ, xpS])
    refine tk0 4 ?_ rfl (Or.inl ⟨by rfl, ?_⟩) hHeld ?_
    rotate_left 1
    ·((intro w9 hSw; clear hSw; go_simp) <;> with_reducible rfl)
    (try simp only [Act.put, List.getElem_toArray, List.getElem_cons_zero, List.getElem_cons_succ, xpA, xpZ, xpS])
    refine tk0 5 ?_ rfl (Or.inl ⟨by rfl, ?_⟩) hHeld ?_
    rotate_left 1
    ·((intro w9 hSw; have z0 := cQ w9 hSw.1.choose_spec.mx.old; clear hSw; go_simp) <;> with_reducible rfl)
    (try simp only [Act.put, List.getElem_toArray, List.getElem_cons_zero, List.getElem_cons_succ, xpA, xpZ, xpS])
    refine tk0 6 ?_ rfl (Or.inl ⟨by rfl, ?_⟩) hHeld ?_
    rotate_left 1
    ·((intro w9 hSw; clear hSw; go_simp) <;> with_reducible rfl)
    (try simp only [Act.put, List.getElem_toArray, List.getElem_cons_zero, List.getElem_cons_succ, xpA, xpZ, xpS])
    refine tk0 7 ?_ rfl (Or.inl ⟨by rfl, ?_⟩) hHeld ?_
    rotate_left 1
    ·((intro w9 hSw; have z0 := hSw.2.k0; clear hSw; go_simp) <;> with_reducible rfl)
    (try simp only [Act.put, List.getElem_toArray, List.getElem_cons_zero, List.getElem_cons_succ, xpA, xpZ, xpS])
    refine tk0 8 ?_ rfl (Or.inl ⟨by rfl, ?_⟩) hHeld ?_
    rotate_left 1
    ·((intro w9 hSw; clear hSw; go_simp) <;> with_reducible rfl)
    (try simp only [Act.put, List.getElem_toArray, List.getElem_cons_zero, List.getElem_cons_succ, xpA, xpZ, xpS])
    refine tk0 9 ?_ rfl (Or.inl ⟨by rfl, ?_⟩) hHeld ?_
    rotate_left 1
    ·((intro w9 hSw; clear hSw; go_simp) <;> with_reducible rfl)
    (try simp only [Act.put, List.getElem_toArray, List.getElem_cons_zero, List.getElem_cons_succ, xpA, xpZ, xpS])
    refine tk0 10 ?_ rfl (Or.inl ⟨by rfl, ?_⟩) hHeld ?_
    rotate_left 1
    ·((intro w9 hSw; clear hSw; go_simp) <;> with_reducible rfl)
    (try simp only [Act.put, List.getElem_toArray, List.getElem_cons_zero, List.getElem_cons_succ, xpA, xpZ, xpS])
    refine tk0 11 ?_ rfl (Or.inl ⟨by rfl, ?_⟩) hHeld ?_
    rotate_left 1
    ·((intro w9 hSw; clear hSw; go_simp) <;> with_reducible rfl)
    (try simp only [Act.put, List.getElem_toArray, List.getElem_cons_zero, List.getElem_cons_succ, xpA, xpZ, xpS])
    refine tk0 12 ?_ rfl (Or.inl ⟨by rfl, ?_⟩) hHeld ?_
    rotate_left 1
    ·((intro w9 hSw; have z0 := (hE2 w9 hSw.1.choose_spec.mx.old).1; clear hSw; go_simp) <;> with_reducible rfl)
    (try simp only [Act.put, List.getElem_toArray, List.getElem_cons_zero, List.getElem_cons_succ, xpA, xpZ, xpS])
    refine tk0 13 ?_ rfl (Or.inl ⟨by rfl, ?_⟩) hHeld ?_
    rotate_left 1
    ·((intro w9 hSw; clear hSw; go_simp) <;> with_reducible rfl)
    (try simp only [Act.put, List.getElem_toArray, List.getElem_cons_zero, List.getElem_cons_succ, xpA, xpZ, xpS])
    refine tk0 14 ?_ rfl (Or.inl ⟨by rfl, ?_⟩) hHeld ?_
    rotate_left 1
    ·((intro w9 hSw; clear hSw; go_simp) <;> with_reducible rfl)
    (try simp only [Act.put, List.getElem_toArray, List.getElem_cons_zero, List.getElem_cons_succ, xpA, xpZ, xpS])
    refine tk0 15 ?_ rfl (Or.inl ⟨by rfl, ?_⟩) hHeld ?_
    rotate_left 1
    ·((intro w9 hSw; have z0 := hSw.2.k1; clear hSw; go_simp) <;> with_reducible rfl)
    (try simp only [Act.put, List.getElem_toArray, List.getElem_cons_zero, List.getElem_cons_succ, xpA, xpZ, xpS])
    refine tk0 16 ?_ rfl (Or.inl ⟨by rfl, ?_⟩) hHeld ?_
    rotate_left 1
    ·((intro w9 hSw; clear hSw; go_simp) <;> with_reducible rfl)
    (try simp only [Act.put, List.getElem_toArray, List.getElem_cons_zero, List.getElem_cons_succ, xpA, xpZ, xpS])
    refine tk0 17 ?_ rfl (Or.inl ⟨by rfl, ?_⟩) hHeld ?_
    rotate_left 1
    ·((intro w9 hSw; clear hSw; go_simp) <;> with_reducible rfl)
    (try simp only [Act.put, List.getElem_toArray, List.getElem_cons_zero, List.getElem_cons_succ, xpA, xpZ, xpS])
    refine tk0 18 ?_ rfl (Or.inl ⟨by rfl, ?_⟩) hHeld ?_
    rotate_left 1
    ·((intro w9 hSw; clear hSw; go_simp) <;> with_reducible rfl)
    (try simp only [Act.put, List.getElem_toArray, List.getElem_cons_zero, List.getElem_cons_succ, xpA, xpZ, xpS])
    refine tk0 19 ?_ rfl (Or.inl ⟨by rfl, ?_⟩) hHeld ?_
    rotate_left 1
    ·((intro w9 hSw; clear hSw; go_simp) <;> with_reducible rfl)
    (try simp only [Act.put, List.getElem_toArray, List.getElem_cons_zero, List.getElem_cons_succ, xpA, xpZ, xpS])
    refine tk0 20 ?_ rfl (Or.inl ⟨by rfl, ?_⟩) hHeld ?_
    rotate_left 1
    ·((intro w9 hSw; clear hSw; go_simp) <;> with_reducible rfl)
    (try simp only [Act.put, List.getElem_toArray, List.getElem_cons_zero, List.getElem_cons_succ, xpA, xpZ, xpS])
    refine tk0 21 ?_ rfl (Or.inl ⟨by rfl, ?_⟩) hHeld ?_
    rotate_left 1
    ·((intro w9 hSw; have z0 := (hE2 w9 hSw.1.choose_spec.mx.old).2; clear hSw; go_simp) <;> with_reducible rfl)
    (try simp only [Act.put, List.getElem_toArray, List.getElem_cons_zero, List.getElem_cons_succ, xpA, xpZ, xpS])
    refine tk0 22 ?_ rfl (Or.inl ⟨by rfl, ?_⟩) hHeld ?_
    rotate_left 1
    ·((intro w9 hSw; clear hSw; go_simp) <;> with_reducible rfl)
    (try simp only [Act.put, List.getElem_toArray, List.getElem_cons_zero, List.getElem_cons_succ, xpA, xpZ, xpS])
    refine rd1 23 rfl (fun K hK => ?_)
    go_simp
    (go_at_call 15; with_reducible refine (lat_any _ _ _).mono ?_; rintro e w23 ⟨rfl, hb23⟩)
    have hK23 := hXV.below hb23
    have hP23 := hHeld.1.2.below hb23 ltV
    have hgV := hHeld.1.1.choose_spec
    refine hK.out _ _ ?_ (fun hHeld => ?_)
    ·(exact ⟨⟨⟨H, hK23⟩, hP23⟩, trivial⟩)
    clear hK K
    (try simp only [Act.put, List.getElem_toArray, List.getElem_cons_zero, List.getElem_cons_succ, xpA, xpZ, xpS])
    refine tk0 24 ?_ rfl (Or.inl ⟨by rfl, ?_⟩) hHeld ?_
    rotate_left 1
    ·((intro w9 hSw; clear hSw; go_simp) <;> with_reducible rfl)
    (try simp only [Act.put, List.getElem_toArray, List.getElem_cons_zero, List.getElem_cons_succ, xpA, xpZ, xpS])
    refine rd1 25 rfl (fun K hK => ?_)
    obtain ⟨c0, c1⟩ := hK23.h.c qv hqv
    have y0 := hK23.h.z (qv * 2)
    have y1 := hK23.h.z (qv * 2 + 1)
    go_simp
    clear c0 c1 y0 y1
    have hK25 := hK23.store qv hqv (px + R (2 * q)) (py + R (2 * q + 1))
    have hP25 := hP23.far ((Below.heap_setCell _ ⟨gh, qv * 2 + 1, none⟩ (.int .i64 (py + R (2 * q + 1))) P hPne).trans (Below.heap_setCell w23 ⟨gh, qv * 2, none⟩ (.int .i64 (px + R (2 * q))) P hPne))
    refine hK.out _ _ ?_ (fun hHeld => ?_)
    ·(exact ⟨⟨⟨_, hK25⟩, hP25⟩, trivial⟩)
    clear hK K
    (try simp only [Act.put, List.getElem_toArray, List.getElem_cons_zero, List.getElem_cons_succ, xpA, xpZ, xpS])
    refine wpAnyP_done (by kernel_rfl) ?_ _
    (try simp only [Act.put, List.getElem_toArray, List.getElem_cons_zero, List.getElem_cons_succ, xpA, xpZ, xpS])
    clear hHeld
    go_wp2
    go_roundw
    case rel => exact ⟨q + 1, _, by omega, by go_num, ⟨hK25⟩, ⟨lt_snoc hRQ.down.1 ⟨by omega, by omega⟩, put_snoc hRQ.down.2 (by rw [holeX, hpx.down, hpy.down]) hdis.down (by omega) hqvd.down⟩⟩
    case measure => simp [intOf]; omega
  ·skip
   have hqe : q = m.sn := by omega
   subst hqe
   obtain ⟨hRo, hHo⟩ := hRQ.down
   have hPS : ∀ W, FX w m (some ⟨bF, oF, none⟩) 13 c1 (some ⟨bG, oG, none⟩) 13 c2 gh gb mo H W → PSl W (.slice (some ⟨gh, 0, none⟩) m.sn m.sn) m.sn (fun j => (H j).1) (fun j => (H j).2) := fun W hW => .inr ⟨gh, 0, m.sn, rfl, hW.lh, fun j hj => by have := hW.h.c j hj; simpa only [Nat.zero_add] using this⟩
   obtain ⟨HX, hHX⟩ : ∃ f : Nat → Int, f = fun j => (H j).1 := ⟨_, rfl⟩
   obtain ⟨HY, hHY⟩ : ∃ f : Nat → Int, f = fun j => (H j).2 := ⟨_, rfl⟩
   rw [← hHX, ← hHY] at hPS
   have hMI : ∀ W, FX w m (some ⟨bF, oF, none⟩) 13 c1 (some ⟨bG, oG, none⟩) 13 c2 gh gb mo H W → MIn W m := fun W hW => h.below hW.mx.old
   have hbt := fun (W : World) (hW : FX w m (some ⟨bF, oF, none⟩) 13 c1 (some ⟨bG, oG, none⟩) 13 c2 gh gb mo H W) => rbutton_any (some ⟨gh, 0, none⟩) m.sn m.sn HX HY mo W (by omega) (hPS W hW)
   have z7 := hX.down.b0
   have z8 := hX.down.b1
   cases hbu : butB m.sn HX HY mo with
   | false =>
    rw [hbu] at hbt
    clear hHX hHY hRQ hRo hHo
    go_wp2_with (first
     | (go_at_call 16; with_reducible refine (hbt _ hX.down).mono ?_; rintro e w3 ⟨rfl, hb⟩; replace hX := Hid.mk (hX.down.below hb); clear hb)
     | (go_at_call 12; with_reducible refine (known_ok _ (hk.below hX.down.mx.old)).mono ?_; rintro e w2 ⟨rfl, hb2⟩))
    go_ret
    exact ⟨rfl, hX.down.mx.old.trans (hb2.mono hX.down.mx.old.size)⟩
   | true =>
    rw [hbu] at hbt
    have hag : agreeB m.sn HX HY m.SX m.SY mo (F k) (G k) = true := found_agree t4 hqo (by have := fk.down; omega) (by have := gk.down; omega) fun i hi => by
     have e1 := hHo i hi
     have e2 := hRo i hi
     rw [hHX, hHY]
     dsimp only
     rw [e1]
     unfold holeX okErrs at *
     dsimp only
     omega
    obtain ⟨sg, hsg⟩ := sg_ex9 m HX HY mo
    have iF := Axis.ends_in (Mach.fineX hok) hFt k t2
    have iG := Axis.ends_in (Mach.fineY hok) hGt k t2
    have hsk : sg k = true := by
     cases hx : sg k with
     | true => rfl
     | false => have := (hsg k).1 hx (F k) (G k) (by unfold InBox; omega); rw [hag] at this; cases this
    have hcan : m.can := ⟨Axis.can_of (Mach.fineX hok) hFt, Axis.can_of (Mach.fineY hok) hGt⟩
    have hco := fun (W : World) (hW : FX w m (some ⟨bF, oF, none⟩) 13 c1 (some ⟨bG, oG, none⟩) 13 c2 gh gb mo H W) => Could_ok (some ⟨gh, 0, none⟩) m.sn mo HX HY m W (by omega) (by omega) (hPS W hW) (hMI W hW) hok hcan hbu sg (fun k _ => hsg k)
    have hwho := fun (W : World) (hW : FX w m (some ⟨bF, oF, none⟩) 13 c1 (some ⟨bG, oG, none⟩) 13 c2 gh gb mo H W) => who_found m (some ⟨gh, 0, none⟩) m.sn mo HX HY k W (by omega) (by omega) (hPS W hW) (hMI W hW) hok hcan hbu sg hsg t1 t2 hsk
    have hpr := fun (W : World) (hW : FX w m (some ⟨bF, oF, none⟩) 13 c1 (some ⟨bG, oG, none⟩) 13 c2 gh gb mo H W) => proves_found m (some ⟨gh, 0, none⟩) m.sn mo HX HY k ko F G W (by omega) (by omega) (hPS W hW) (hMI W hW) hok hcan hbu t1 t2 t3 hFt hGt hag
    have hhs := fun (W : World) (v : Value) (hv : IRow W v (blanksTo sg 12)) => has_any v (blanksTo sg 12) k W hv (blanksTo_length sg 12) (blanks_mem t1 t2 hsk)
    have cF2 : ∀ W, Below w.heap.size w W → W.cell? ⟨bF, oF + ko, none⟩ = some (.int .i64 (F ko)) := fun W hW => (hW.cell (p := ⟨bF, oF + ko, none⟩) lF).trans (pF ko (by omega))
    have cG2 : ∀ W, Below w.heap.size w W → W.cell? ⟨bG, oG + ko, none⟩ = some (.int .i64 (G ko)) := fun W hW => (hW.cell (p := ⟨bG, oG + ko, none⟩) lG).trans (pG ko (by omega))
    have hko0 : (0 : Int) ≤ (ko : Int) := Int.natCast_nonneg _
    have hko1 : (ko : Int) < 13 := by omega
    obtain ⟨q0, q1, q2, q3, q4, q5, q6, q7, q8, q9⟩ := hX.down.mx.mach
    clear hHX hHY hRQ hRo hHo hag iF iG hsk hsg y0 hPS hMI hFt hGt hcan
    go_wp2_with (first
     | (go_at_call 16; with_reducible refine (hbt _ hX.down).mono ?_; rintro e w3 ⟨rfl, hb⟩; replace hX := Hid.mk (hX.down.below hb); clear hb; have z7 := hX.down.b0; have z8 := hX.down.b1; obtain ⟨q0, q1, q2, q3, q4, q5, q6, q7, q8, q9⟩ := hX.down.mx.mach)
     | (go_at_call 17; with_reducible refine (hco _ hX.down).mono ?_; rintro e w4 ⟨v4, rfl, hrow, hb⟩; obtain ⟨la, lc, rfl⟩ := ownsRow_slice hrow; replace hX := Hid.mk (hX.down.below hb); have hL := Hid.mk (IRow.of_own hrow); clear hrow hb; have z7 := hX.down.b0; have z8 := hX.down.b1; obtain ⟨q0, q1, q2, q3, q4, q5, q6, q7, q8, q9⟩ := hX.down.mx.mach; have z9 := fun o => (hX.down.alloc o).b0; have z10 := fun o => (hX.down.alloc o).b1)
     | (go_at_call 18; with_reducible refine (hwho _ hX.down).mono ?_; rintro e w5 ⟨vg, vc, rfl, hW5, hb⟩; replace hX := Hid.mk ((hX.down.alloc _).below hb); replace hL := Hid.mk ((hL.down.below ((Below.refl _ _).alloc (Nat.le_refl _) _)).below hb); replace hW5 := Hid.mk hW5; clear hb z9 z10; have z7 := hX.down.b0; have z8 := hX.down.b1; obtain ⟨q0, q1, q2, q3, q4, q5, q6, q7, q8, q9⟩ := hX.down.mx.mach)
     | (go_at_call 19; with_reducible refine (hpr _ hX.down).mono ?_; rintro e w6 ⟨p0, p1, r0, r1, rfl, hbd, hb⟩; replace hX := Hid.mk (hX.down.below hb); replace hL := Hid.mk (hL.down.below hb); replace hW5 := Hid.mk (held_two hW5.down hb); replace hbd := Hid.mk hbd; have hY := fun o1 o2 => (hX.down.alloc o1).alloc o2; have hLY := fun o1 o2 => hL.down.below (below_two w6 o1 o2); have hWY := fun o1 o2 => held_two hW5.down (below_two w6 o1 o2); have hAB := AB.new w6 p0 p1 r0 r1 24; clear hb)
     | (go_at_call 20; with_reducible refine (hhs _ _ (hLY _ _)).mono ?_; rintro e w7 ⟨rfl, hb⟩; replace hX := Hid.mk ((hY _ _).below hb); replace hAB := hAB.below hb; replace hW5 := Hid.mk (held_two (hWY _ _) hb); clear hb)
     | (go_at_call 21; with_reducible refine (same_found _ _ _ hW5.down).mono ?_; rintro e w8 ⟨rfl, hb⟩; have hXE := (hX.down.alloc _).below hb; have hAE := (hAB.below ((Below.refl _ _).alloc (Nat.le_refl _) _)).below hb; clear hb))
    obtain ⟨⟨v7, v16⟩, v26, v36⟩ := hbd.down
    clear hX hY hLY hWY hAB hL hW5 hbd q0 q1 q2 q3 q4 q5 q6 q7 q8 q9 z7 z8 hco hwho hpr hhs hbt
    generalize w6.heap.size = sB at *
    refine wp_region_late [] (fun w9 => FX w m (some ⟨bF, oF, none⟩) 13 c1 (some ⟨bG, oG, none⟩) 13 c2 gh gb mo H w9 ∧ AB w9 sB p0 p1 r0 r1) (fun w9 => True) (by kernel_rfl) ?_ (fun hHeld => ?_)
    ·(exact ⟨⟨hXE.drew, hAE.below (Below.refl _ _).drew⟩, trivial⟩)
    generalize w8.drew = V3 at hHeld ⊢
    refine tk1 0 rfl hHeld ?_
    refine tk2 1 rfl (by (intro w9 hSw; have z0 := hSw.1.mx.x0; clear hSw; go_simp) <;> with_reducible rfl) hHeld ?_
    refine tk1 2 rfl hHeld ?_
    refine tk1 3 rfl hHeld ?_
    refine tk2 4 rfl (by (intro w9 hSw; have z0 := cF2 w9 hSw.1.mx.old; clear hSw; go_simp) <;> with_reducible rfl) hHeld ?_
    refine tk1 5 rfl hHeld ?_
    refine tk2 6 rfl (by (intro w9 hSw; have z0 := hSw.2.a0; clear hSw; go_simp) <;> with_reducible rfl) hHeld ?_
    refine tk0 7 (.bool true) rfl (Or.inl ⟨by rfl, ?_⟩) hHeld ?_
    ·((intro w9 hSw; clear hSw; go_simp) <;> (first | with_reducible rfl | simp [v7] | (simp; omega)))
    (try simp only [Act.put, xpA, xpZ, xpS])
    refine tk1 8 rfl hHeld ?_
    refine tk3 9 rfl (by (intro w9 hSw; clear hSw; go_simp) <;> with_reducible rfl) hHeld ?_
    refine tk3 10 rfl (by (intro w9 hSw; have z0 := hSw.1.mx.x0; clear hSw; go_simp) <;> with_reducible rfl) hHeld ?_
    refine tk3 11 rfl (by (intro w9 hSw; clear hSw; go_simp) <;> with_reducible rfl) hHeld ?_
    refine tk3 12 rfl (by (intro w9 hSw; clear hSw; go_simp) <;> with_reducible rfl) hHeld ?_
    refine tk3 13 rfl (by (intro w9 hSw; have z0 := cF2 w9 hSw.1.mx.old; clear hSw; go_simp) <;> with_reducible rfl) hHeld ?_
    refine tk3 14 rfl (by (intro w9 hSw; clear hSw; go_simp) <;> with_reducible rfl) hHeld ?_
    refine tk3 15 rfl (by (intro w9 hSw; have z0 := hSw.2.a1; clear hSw; go_simp) <;> with_reducible rfl) hHeld ?_
    refine tk0 16 (.bool true) rfl (Or.inl ⟨by kernel_rfl, ?_⟩) hHeld ?_
    ·((intro w9 hSw; clear hSw; go_simp) <;> (first | with_reducible rfl | simp [v16] | (simp; omega)))
    (try simp only [Act.put, xpA, xpZ, xpS])
    refine tk1 17 rfl hHeld ?_
    refine tk1 18 rfl hHeld ?_
    refine tk3 19 rfl (by (intro w9 hSw; clear hSw; go_simp) <;> with_reducible rfl) hHeld ?_
    refine tk3 20 rfl (by (intro w9 hSw; have z0 := hSw.1.mx.x1; clear hSw; go_simp) <;> with_reducible rfl) hHeld ?_
    refine tk3 21 rfl (by (intro w9 hSw; clear hSw; go_simp) <;> with_reducible rfl) hHeld ?_
    refine tk3 22 rfl (by (intro w9 hSw; clear hSw; go_simp) <;> with_reducible rfl) hHeld ?_
    refine tk3 23 rfl (by (intro w9 hSw; have z0 := cG2 w9 hSw.1.mx.old; clear hSw; go_simp) <;> with_reducible rfl) hHeld ?_
    refine tk3 24 rfl (by (intro w9 hSw; clear hSw; go_simp) <;> with_reducible rfl) hHeld ?_
    refine tk3 25 rfl (by (intro w9 hSw; have z0 := hSw.2.b0; clear hSw; go_simp) <;> with_reducible rfl) hHeld ?_
    refine tk0 26 (.bool true) rfl (Or.inl ⟨by kernel_rfl, ?_⟩) hHeld ?_
    ·((intro w9 hSw; clear hSw; go_simp) <;> (first | with_reducible rfl | simp [v26] | (simp; omega)))
    (try simp only [Act.put, xpA, xpZ, xpS])
    refine tk1 27 rfl hHeld ?_
    refine tk1 28 rfl hHeld ?_
    refine tk3 29 rfl (by (intro w9 hSw; clear hSw; go_simp) <;> with_reducible rfl) hHeld ?_
    refine tk3 30 rfl (by (intro w9 hSw; have z0 := hSw.1.mx.x1; clear hSw; go_simp) <;> with_reducible rfl) hHeld ?_
    refine tk3 31 rfl (by (intro w9 hSw; clear hSw; go_simp) <;> with_reducible rfl) hHeld ?_
    refine tk3 32 rfl (by (intro w9 hSw; clear hSw; go_simp) <;> with_reducible rfl) hHeld ?_
    refine tk3 33 rfl (by (intro w9 hSw; have z0 := cG2 w9 hSw.1.mx.old; clear hSw; go_simp) <;> with_reducible rfl) hHeld ?_
    refine tk3 34 rfl (by (intro w9 hSw; clear hSw; go_simp) <;> with_reducible rfl) hHeld ?_
    refine tk3 35 rfl (by (intro w9 hSw; have z0 := hSw.2.b1; clear hSw; go_simp) <;> with_reducible rfl) hHeld ?_
    refine tk0 36 (.bool true) rfl (Or.inl ⟨by kernel_rfl, ?_⟩) hHeld ?_
    ·((intro w9 hSw; clear hSw; go_simp) <;> (first | with_reducible rfl | simp [v36] | (simp; omega)))
    (try simp only [Act.put, xpA, xpZ, xpS])
    refine tk1 37 rfl hHeld ?_
    refine tk1 38 rfl hHeld ?_
    refine rd1 39 rfl (fun K hK => ?_)
    go_simp
    (go_at_call 12; with_reducible refine (known_ok _ (hk.below hHeld.1.1.mx.old)).mono ?_; rintro e wK ⟨rfl, hbK⟩)
    refine hK.out _ _ ?_ (fun hHeld => ?_)
    ·(exact ⟨⟨hHeld.1.1.below hbK, hHeld.1.2.below hbK⟩, trivial⟩)
    clear hK K
    (try simp only [Act.put, xpA, xpZ, xpS])
    refine tk1 40 rfl hHeld ?_
    refine tk1 41 rfl hHeld ?_
    refine wpAnyP_done (by kernel_rfl) ?_ _
    (try simp only [Act.put, List.getElem_toArray, List.getElem_cons_zero, List.getElem_cons_succ, xpA, xpZ, xpS])
    have hO := hHeld.1.1.mx.old
    clear hHeld
    go_wp2
    go_ret
    exact ⟨rfl, hO⟩
end Go.Proofs.YtjhpklolpmaopaaGreatDoor
namespace Go.Proofs.YtjhpklolpmaopaaGreatDoor
open Go.RowKit Go.Can
theorem found_all {m : Mach} {a1 : Option Addr} {n1 c1 : Nat} {a2 : Option Addr} {n2 c2 : Nat} {F G : Nat → Int} {bk tn : Int} {a3 : Option Addr} {n3 c3 : Nat} {Q : Nat → Int} {a4 : Option Addr} {n4 c4 : Nat} {R : Nat → Int} {mo ot : Int} {w : World} (hk : KG w)
  (hs : m.sn ≤ 9223372036854775807) (hr : m.rn ≤ 9223372036854775807) (h1 : n1 ≤ 9223372036854775807) (h2 : n2 ≤ 9223372036854775807) (h3 : n3 ≤ 9223372036854775807) (h4 : n4 ≤ 9223372036854775807) (hc1 : n1 ≤ c1) (hc2 : n2 ≤ c2)
  (h : MIn w m) (hF : IntsSl w (.slice a1 n1 c1) n1 F) (hG : IntsSl w (.slice a2 n2 c2) n2 G) (hQ : IntsSl w (.slice a3 n3 c3) n3 Q) (hR : IntsSl w (.slice a4 n4 c4) n4 R) :
  Calls Tryz.prog 3 #[m.val, .agg #[.slice a1 n1 c1, .slice a2 n2 c2], .int .i64 bk, .int .i64 tn, .slice a3 n3 c3, .slice a4 n4 c4, .int .i64 mo, .int .i64 ot] w fun e w' => e = .returned (.bool true) ∧ Below w.heap.size w w' := by
 by_cases g : FoundOk m n1 n2 F G bk tn n3 Q n4 mo ot
 ·cases hh : (m.axX.holdB F && m.axY.holdB G) with
  | false => exact found_unfit m a1 n1 c1 a2 n2 c2 F G bk tn a3 n3 c3 Q a4 n4 c4 R mo ot w hk hc1 hc2 h hF hG hQ hR g hh
  | true => exact found_fit m a1 n1 c1 a2 n2 c2 F G bk tn a3 n3 c3 Q a4 n4 c4 R mo ot w hk hc1 hc2 h hF hG hQ hR g hh
 ·exact found_odd m a1 n1 c1 a2 n2 c2 F G bk tn a3 n3 c3 Q a4 n4 c4 R mo ot w hk hs hr h1 h2 h3 h4 h hF hG hQ hR g
end Go.Proofs.YtjhpklolpmaopaaGreatDoor
namespace Go.Proofs.YtjhpklolpmaopaaGreatDoor
open Go.ChangeShapes Go.WideShapes Go.ChangeAt Go.RowKit
/-! ### What the package-level variables hold -/
section
variable {H : Type} {enc : TypeId × Value → H} {P : Program} {w : World} {base : Nat} {spare : Nat → Bool} {held : Bool}
theorem arr_each {α : Type} {n fuel : Nat} {e t : TypeId} {cs : List Value} {p : List MemPlace} {l : List α} {D : α → DataW H} {V : α → Value} (ht : P.underlying t = some (.array n e)) (hc : P.cellsOf e = 1) (hct : P.cellsOf t = n)
  (hone : ∀ m v y a, DataW.trod enc P w base spare held m e [v] = some y → y.1 = D a → v = V a)
  (h : DataW.trod enc P w base spare held fuel t cs = some (.agg (l.map D), p)) : cs = l.map V := by
 obtain ⟨xs, m, _, hx, hlen, hn, hel⟩ := DataW.trod_array ht h
 simp only [Prod.mk.injEq, DataW.agg.injEq] at hx
 rw [hct] at hlen
 have hll : l.length = n := by
  have := congrArg List.length hx.1
  simp only [List.length_map] at this
  omega
 apply List.ext_getElem (by rw [List.length_map]; omega)
 intro i h1 h2
 rw [List.length_map] at h2
 have hi : i < n := by omega
 have h3 := hel i hi
 rw [hc, Nat.mul_one] at h3
 have h4 : (cs.drop i).take 1 = [cs[i]] := by
  rw [List.drop_eq_getElem_cons h1]; rfl
 rw [h4] at h3
 have h5 : xs[i]? = some (xs[i]'(by omega)) := List.getElem?_eq_getElem (by omega)
 have h6 : (xs[i]'(by omega)).1 = D (l[i]'h2) := by
  have h7 : (l.map D)[i]? = (xs.map (·.1))[i]? := by rw [hx.1]
  rw [List.getElem?_map, List.getElem?_map, h5, List.getElem?_eq_getElem h2] at h7
  simpa using h7.symm
 rw [List.getElem_map]
 exact hone m _ _ _ (h3.trans h5) h6
end
theorem block_of_var {P : Program} {w : World} {name : String} {cs : Array Value} {g : Nat} (hg : P.globalNamed name = some g) (h : w.var? P name = some cs) : ∃ e f, w.heap[g]? = some (.cells cs e f) := by
 unfold World.var? at h
 rw [hg] at h
 simp only [Option.bind_some] at h
 split at h
 ·next c e f hh => cases h; exact ⟨e, f, hh⟩
 ·cases h
theorem int_each {k : IntKind} {e : TypeId} {P : Program} {w : World} {base : Nat} {spare : Nat → Bool} {held : Bool} {H : Type} {enc : TypeId × Value → H} (he : P.underlying e = some (.int k)) :
  ∀ m v (y : DataW H × List MemPlace) a, DataW.trod enc P w base spare held m e [v] = some y → y.1 = .lit (.int k a) → v = .int k a := fun m v y a h h1 => by
 obtain ⟨n, e1, e2, _⟩ := DataW.trod_int he h
 rw [e2] at h1
 simp only [DataW.lit.injEq, Lit.int.injEq, true_and] at h1
 rw [List.cons.injEq] at e1
 rw [e1.1, h1]
theorem str_each {e : TypeId} {P : Program} {w : World} {base : Nat} {spare : Nat → Bool} {held : Bool} {H : Type} {enc : TypeId × Value → H} (he : P.underlying e = some .string) :
  ∀ m v (y : DataW H × List MemPlace) (a : ByteArray), DataW.trod enc P w base spare held m e [v] = some y → y.1 = .lit (.string a.data.toList) → v = .string a := fun m v y a h h1 => by
 obtain ⟨s, e1, e2, _⟩ := DataW.trod_string he h
 rw [e2] at h1
 simp only [DataW.lit.injEq, Lit.string.injEq] at h1
 rw [List.cons.injEq] at e1
 rw [e1.1]
 obtain ⟨s⟩ := s
 obtain ⟨a⟩ := a
 dsimp only at h1
 rw [Array.toList_inj.1 h1]
def list0 : List Int := [0, 1, 28, 2, 29, 14, 24, 3, 30, 22, 20, 15, 25, 17, 4, 8, 31, 27, 13, 23, 21, 19, 16, 7, 26, 12, 18, 6, 11, 5, 10, 9]
theorem gl0 : Tryz.prog.globalNamed "math/bits.deBruijn32tab" = some 3 := by kernel_rfl
theorem ty0 : (Tryz.prog.globals[3]?).map (·.type) = some 281 := by kernel_rfl
def list1 : List Int := [0, 1, 56, 2, 57, 49, 28, 3, 61, 58, 42, 50, 38, 29, 17, 4, 62, 47, 59, 36, 45, 43, 51, 22, 53, 39, 33, 30, 24, 18, 12, 5, 63, 55, 48, 27, 60, 41, 37, 16, 46, 35, 44, 21, 52, 32, 23, 11, 54, 26, 40, 15, 34, 20, 31, 10, 25, 14, 19, 9, 13, 8, 7, 6]
theorem gl1 : Tryz.prog.globalNamed "math/bits.deBruijn64tab" = some 4 := by kernel_rfl
theorem ty1 : (Tryz.prog.globals[4]?).map (·.type) = some 282 := by kernel_rfl
def list2 : List Int := [1, 10, 100, 1000, 10000, 100000, 1000000, 10000000, 100000000, 1000000000, 10000000000, 100000000000, 1000000000000, 10000000000000, 100000000000000, 1000000000000000, 10000000000000000, 100000000000000000, 1000000000000000000, 10000000000000000000]
theorem gl2 : Tryz.prog.globalNamed "internal/strconv.uint64pow10" = some 2 := by kernel_rfl
theorem ty2 : (Tryz.prog.globals[2]?).map (·.type) = some 270 := by kernel_rfl
def list3 : List ByteArray := [⟨#[109, 97, 99, 104, 105, 110, 101]⟩, ⟨#[115, 116, 111, 112]⟩, ⟨#[99, 104, 117, 99, 107]⟩, ⟨#[119, 101, 97, 114]⟩, ⟨#[114, 101, 97, 100, 105, 110, 103]⟩, ⟨#[101, 110, 100]⟩]
theorem gl3 : Tryz.prog.globalNamed "nacre/drill.words" = some 0 := by kernel_rfl
theorem ty3 : (Tryz.prog.globals[0]?).map (·.type) = some 203 := by kernel_rfl
theorem of_laid {W : World} (h : laidMetH Tryz.prog Rows.drillProvesRow.laid W) : KG W := by
 rw [MakeChecks.laidMetH_plain _ _ _ (by kernel_rfl)] at h
 obtain ⟨ps, ⟨a0, t0, cs0, f0, p0, q0, hg0, ht0, hv0, hd0, ⟨a1, t1, cs1, f1, p1, q1, hg1, ht1, hv1, hd1, ⟨a2, t2, cs2, f2, p2, q2, hg2, ht2, hv2, hd2, ⟨a3, t3, cs3, f3, p3, q3, hg3, ht3, hv3, hd3, _, _⟩, _⟩, _⟩, _⟩, _, _⟩ := h
 obtain rfl := Option.some.inj (gl0.symm.trans hg0)
 obtain rfl := Option.some.inj (ty0.symm.trans ht0)
 obtain rfl := Option.some.inj (gl1.symm.trans hg1)
 obtain rfl := Option.some.inj (ty1.symm.trans ht1)
 obtain rfl := Option.some.inj (gl2.symm.trans hg2)
 obtain rfl := Option.some.inj (ty2.symm.trans ht2)
 obtain rfl := Option.some.inj (gl3.symm.trans hg3)
 obtain rfl := Option.some.inj (ty3.symm.trans ht3)
 have z0 := arr_each (l := list0) (V := Value.int .u8) (D := fun z => .lit (.int .u8 z)) (by kernel_rfl : Tryz.prog.underlying 281 = some (.array 32 5)) (by kernel_rfl) (by kernel_rfl) (int_each (by kernel_rfl : Tryz.prog.underlying 5 = some (.int .u8))) hd0
 have z1 := arr_each (l := list1) (V := Value.int .u8) (D := fun z => .lit (.int .u8 z)) (by kernel_rfl : Tryz.prog.underlying 282 = some (.array 64 5)) (by kernel_rfl) (by kernel_rfl) (int_each (by kernel_rfl : Tryz.prog.underlying 5 = some (.int .u8))) hd1
 have z2 := arr_each (l := list2) (V := Value.int .u64) (D := fun z => .lit (.int .u64 z)) (by kernel_rfl : Tryz.prog.underlying 270 = some (.array 20 253)) (by kernel_rfl) (by kernel_rfl) (int_each (by kernel_rfl : Tryz.prog.underlying 253 = some (.int .u64))) hd2
 have z3 := arr_each (l := list3) (V := Value.string) (D := fun z => .lit (.string z.data.toList)) (by kernel_rfl : Tryz.prog.underlying 203 = some (.array 6 9)) (by kernel_rfl) (by kernel_rfl) (str_each (by kernel_rfl : Tryz.prog.underlying 9 = some .string)) hd3
 have w0 : cs0 = cells0.toArray := Array.toList_inj.1 (by rw [z0]; rfl)
 have w1 : cs1 = cells1.toArray := Array.toList_inj.1 (by rw [z1]; rfl)
 have w2 : cs2 = cells2.toArray := Array.toList_inj.1 (by rw [z2]; rfl)
 have w3 : cs3 = cells3.toArray := Array.toList_inj.1 (by rw [z3]; rfl)
 subst w0
 subst w1
 subst w2
 subst w3
 exact ⟨block_of_var gl0 hv0, block_of_var gl1 hv1, block_of_var gl2 hv2, block_of_var gl3 hv3⟩
theorem own : ownKnob Tryz.prog.godebug = none := by kernel_rfl
theorem laidOut : laidOutB Tryz.prog = true := by kernel_rfl
end Go.Proofs.YtjhpklolpmaopaaGreatDoor
/-! Slices whose elements are so many integers each, whatever the struct: in memory, and out of a row's reading. No seat. -/
namespace Go.Gen
open Go Go.ChangeShapes Go.WideShapes Go.ChangeAt Go.RowKit Go.Deep
/-- n elements of k integers each. -/
def KRows (k : Nat) (w : World) (b off n : Nat) (F : Nat → Nat → Int) : Prop := ∀ i, i < n → ∀ j, j < k → w.cell? ⟨b, off + i * k + j, none⟩ = some (.int .i64 (F i j))
theorem KRows.below {k : Nat} {w w' : World} {b off n : Nat} {F : Nat → Nat → Int} (h : KRows k w b off n F) (hb : Below w.heap.size w w') (hl : b < w.heap.size) : KRows k w' b off n F :=
 fun i hi j hj => (hb.cell (p := ⟨b, off + i * k + j, none⟩) hl).trans (h i hi j hj)
/-- a slice of them; an empty one lies wherever. -/
def KSl (k : Nat) (w : World) (v : Value) (n : Nat) (F : Nat → Nat → Int) : Prop := (∃ a c, v = .slice a 0 c ∧ n = 0) ∨ ∃ b off cap, v = .slice (some ⟨b, off, none⟩) n cap ∧ b < w.heap.size ∧ KRows k w b off n F
theorem KSl.below {k : Nat} {w w' : World} {v : Value} {n : Nat} {F : Nat → Nat → Int} (h : KSl k w v n F) (hb : Below w.heap.size w w') : KSl k w' v n F := by
 rcases h with h | ⟨b, off, cap, h1, h2, h3⟩
 ·exact .inl h
 ·exact .inr ⟨b, off, cap, h1, Nat.lt_of_lt_of_le h2 hb.size, h3.below hb h2⟩
theorem KSl.slice {k : Nat} {w : World} {v : Value} {n : Nat} {F : Nat → Nat → Int} (h : KSl k w v n F) : ∃ a c, v = .slice a n c := by
 rcases h with ⟨a, c, h1, h2⟩ | ⟨b, off, c, h1, _⟩
 ·exact ⟨a, c, by rw [h1, h2]⟩
 ·exact ⟨_, c, h1⟩
theorem KSl.pos {k : Nat} {w : World} {v : Value} {n : Nat} {F : Nat → Nat → Int} (h : KSl k w v n F) (hn : 1 ≤ n) : ∃ b off cap, v = .slice (some ⟨b, off, none⟩) n cap ∧ b < w.heap.size ∧ KRows k w b off n F := by
 rcases h with ⟨a, c, _, h2⟩ | h
 ·omega
 ·exact h
/-- one element's integer, at the place as a walk reckons it. -/
theorem KRows.first {k : Nat} {w : World} {b off n : Nat} {F : Nat → Nat → Int} (h : KRows k w b off n F) {i : Nat} (hi : i < n) (hk : 0 < k) : w.cell? ⟨b, off + i * k, none⟩ = some (.int .i64 (F i 0)) := h i hi 0 hk
theorem KRows.one {w : World} {b off n : Nat} {F : Nat → Nat → Int} (h : KRows 1 w b off n F) {i : Nat} (hi : i < n) : w.cell? ⟨b, off + i, none⟩ = some (.int .i64 (F i 0)) := by
 have := h i hi 0 (by omega)
 rw [Nat.mul_one] at this
 exact this
/-- the cells of a new block. -/
theorem cells_new (w : World) (l : Array Value) (e : TypeId) {j : Nat} {u : Value} (h : l[j]? = some u) : (w.alloc (Obj.cells l e)).cell? ⟨w.heap.size, j, none⟩ = some u := by
 have h1 : (w.alloc (Obj.cells l e)).heap[w.heap.size]? = some (Obj.cells l e (0, 0)) := World.alloc_heap_new w _
 unfold World.cell?
 rw [h1]
 exact h
theorem wle_one (w : World) (a : Obj) : w.heap.size ≤ (w.alloc a).heap.size := by rw [World.size_alloc]; omega
theorem wle_two (w : World) (a b : Obj) : w.heap.size ≤ ((w.alloc a).alloc b).heap.size := by rw [World.size_alloc, World.size_alloc]; omega
theorem wlt_two (w : World) (a b : Obj) : w.heap.size < ((w.alloc a).alloc b).heap.size := by rw [World.size_alloc, World.size_alloc]; omega
/-! ### Out of a reading -/
theorem add_zero' (a : Addr) : a.add 0 = a := by
 obtain ⟨b, o, s⟩ := a
 cases s <;> simp [Addr.add]
theorem spot_of {W : World} {a : Addr} {v : Value} (hx0 : W.cell? a = some v) : a.spot = none := by
 unfold World.cell? at hx0
 split at hx0
 ·split at hx0
  ·cases hx0
  ·next hns => cases e : a.spot with
   | none => rfl
   | some s => rw [e] at hns; exact absurd rfl hns
 ·cases hx0
theorem add_at (b o j : Nat) : (⟨b, o, none⟩ : Addr).add j = ⟨b, o + j, none⟩ := by unfold Addr.add; split <;> simp_all
/-- whatever reads as type e is k integers. -/
def IntsOf (P : Program) (e : TypeId) (k : Nat) : Prop :=
 P.cellsOf e = k ∧ ∀ {H : Type} {enc : TypeId × Value → H} {W : World} {base : Nat} {spare : Nat → Bool} {held : Bool} (fuel : Nat) (cs : List Value) (y : DataW H × List MemPlace), DataW.trod enc P W base spare held fuel e cs = some y → cs.length = k → ∀ j, j < k → ∃ x : Int, cs[j]? = some (.int .i64 x)
theorem IntsOf.int {P : Program} {e : TypeId} (hc : P.cellsOf e = 1) (ht : P.underlying e = some (.int .i64)) : IntsOf P e 1 := ⟨hc, fun fuel cs y h hl j hj => by
 obtain ⟨x, e1, _⟩ := DataW.trod_int ht h
 obtain rfl : j = 0 := by omega
 have e1 : cs = [Value.int .i64 x] := e1
 exact ⟨x, by rw [e1]; rfl⟩⟩
theorem IntsOf.struct {P : Program} {t : TypeId} {fs : Array Field} {k : Nat} (hc : P.cellsOf t = k) (ht : P.underlying t = some (.struct fs))
  (hcov : ∀ j, j < k → ∃ (i : Nat) (f : Field) (m : Nat), fs[i]? = some f ∧ f.offset ≤ j ∧ j < f.offset + m ∧ f.offset + m ≤ k ∧ IntsOf P f.type m) : IntsOf P t k := ⟨hc, fun {H enc W base spare held} fuel cs y h hl j hj => by
 obtain ⟨ys, n2, _, _, _, hyl, hff⟩ := DataW.trod_struct ht h
 obtain ⟨i, f, m, h1, h2, h3, h3', h4, h5⟩ := hcov j hj
 have h6 := hff i f h1
 rw [h4] at h6
 have hi : i < ys.length := by
  rw [hyl]
  have := (Array.getElem?_eq_some_iff.1 h1).1
  simpa using this
 have h7 := h6.trans (List.getElem?_eq_getElem hi)
 have hlen : ((cs.drop f.offset).take m).length = m := by
  rw [List.length_take, List.length_drop, hl]; omega
 obtain ⟨x, hx⟩ := h5 (H := H) (enc := enc) (W := W) (base := base) (spare := spare) (held := held) n2 _ _ h7 hlen (j - f.offset) (by omega)
 refine ⟨x, ?_⟩
 rw [List.getElem?_take, if_pos (by omega), List.getElem?_drop] at hx
 rw [← hx]
 congr 1
 omega⟩
theorem ksl_trod {P : Program} {H : Type} {enc : TypeId × Value → H} {W : World} {k : Nat} {t e : TypeId} {fuel : Nat} {cs : List Value} {y : DataW H × List MemPlace} (ht : P.underlying t = some (.slice e)) (he : IntsOf P e k) (hk : 0 < k)
  (hf : DataW.trod enc P W 0 (fun _ => true) true fuel t cs = some y) :
  ∃ (a : Option Addr) (n c : Nat) (F : Nat → Nat → Int), cs = [.slice a n c] ∧ n ≤ 9223372036854775807 ∧ n ≤ c ∧ KSl k W (.slice a n c) n F := by
 rcases open_slice ht hf with ⟨h1, _⟩ | ⟨a, len, cap, m, n', D, Pl, hcs, _, hl, hm, hmm, _, hi⟩
 ·exact ⟨none, 0, 0, fun _ _ => 0, h1, by omega, Nat.le_refl _, .inl ⟨none, 0, rfl, rfl⟩⟩
 ·have hmax : len ≤ 9223372036854775807 := by unfold maxLen at hm; omega
  have hmc : m = cap := hmm
  subst hmc
  have each : ∀ i, i < m → ∀ j, j < k → ∃ x : Int, W.cell? ((a.add (i * k)).add j) = some (.int .i64 x) := fun i hi' j hj => by
   obtain ⟨cs', hc, ht'⟩ := hi i hi'
   rw [he.1] at hc
   obtain ⟨_, hcl, hat⟩ := World.cells?_some hc
   obtain ⟨x, hx⟩ := he.2 _ _ _ ht' hcl j hj
   refine ⟨x, ?_⟩
   rw [hat j (by omega)]
   have : cs'[j]? = some (Value.int .i64 x) := hx
   rw [this]
  refine ⟨some a, len, m, fun i j => intOf ((W.cell? ⟨a.block, a.off + i * k + j, none⟩).getD undef), hcs, hmax, hl, ?_⟩
  rcases Nat.eq_zero_or_pos m with hz | hpos
  ·have : len = 0 := by omega
   subst this
   exact .inl ⟨some a, m, rfl, rfl⟩
  ·obtain ⟨x0, hx0⟩ := each 0 hpos 0 hk
   have hlt := World.block_lt_of_cell? W _ hx0
   rw [Nat.zero_mul, add_zero', add_zero'] at hx0
   have hsp := spot_of hx0
   obtain ⟨b, off, sp⟩ := a
   dsimp only at hsp
   subst hsp
   have hlt' : b < W.heap.size := World.block_lt_of_cell? W _ hx0
   refine .inr ⟨b, off, m, rfl, hlt', fun i hi2 j hj => ?_⟩
   obtain ⟨x, hx⟩ := each i (by omega) j hj
   have e1 : ((⟨b, off, none⟩ : Addr).add (i * k)).add j = ⟨b, off + i * k + j, none⟩ := by rw [add_at, add_at]
   rw [e1] at hx
   show W.cell? ⟨b, off + i * k + j, none⟩ = some (.int .i64 (intOf ((W.cell? ⟨b, off + i * k + j, none⟩).getD undef)))
   rw [hx]; rfl
theorem cells_slice {v : Value} {a : Option Addr} {n c : Nat} (hs : ∃ a n c, v = .slice a n c) (h : v.cells.toList = [.slice a n c]) : v = .slice a n c := by
 obtain ⟨a', n', c', rfl⟩ := hs
 simpa [Value.cells] using h
end Go.Gen
namespace Go.Proofs.YtjhpklolpmaopaaGreatDoor
open Go.ChangeShapes Go.WideShapes Go.ChangeAt Go.RowKit Go.Deep Go.Gen
theorem ints_int : IntsOf Tryz.prog 3 1 := IntsOf.int (by kernel_rfl) Tryz.underlying3
theorem ints_span : IntsOf Tryz.prog 24 2 := IntsOf.struct (by kernel_rfl) Tryz.underlying24 fun j hj => by
 match j, hj with
 | 0, _ => exact ⟨0, _, 1, rfl, by decide, by decide, by decide, ints_int⟩
 | 1, _ => exact ⟨1, _, 1, rfl, by decide, by decide, by decide, ints_int⟩
theorem ints_DrillPoint : IntsOf Tryz.prog 43 2 := IntsOf.struct (by kernel_rfl) Tryz.underlying43 fun j hj => by
 match j, hj with
 | 0, _ => exact ⟨0, _, 1, rfl, by decide, by decide, by decide, ints_int⟩
 | 1, _ => exact ⟨1, _, 1, rfl, by decide, by decide, by decide, ints_int⟩
theorem ints_DrillReading : IntsOf Tryz.prog 60 4 := IntsOf.struct (by kernel_rfl) Tryz.underlying60 fun j hj => by
 match j, hj with
 | 0, _ => exact ⟨0, _, 1, rfl, by decide, by decide, by decide, ints_int⟩
 | 1, _ => exact ⟨1, _, 1, rfl, by decide, by decide, by decide, ints_int⟩
 | 2, _ => exact ⟨2, _, 1, rfl, by decide, by decide, by decide, ints_int⟩
 | 3, _ => exact ⟨3, _, 1, rfl, by decide, by decide, by decide, ints_int⟩
theorem cons_of {α : Type} : ∀ {l : List α} {k : Nat}, l.length = k + 1 → ∃ u l', l = u :: l' ∧ l'.length = k
 | u :: l, k, h => ⟨u, l, rfl, by simpa using h⟩
theorem some_at {α : Type} {l : List α} {n i : Nat} (h : l.length = n) (hi : i < n) : ∃ y, l[i]? = some y := ⟨l[i]'(by omega), List.getElem?_eq_getElem (by omega)⟩
set_option maxRecDepth 100000 in
theorem open_ints {H : Type} {enc : TypeId × Value → H} {W : World} {base : Nat} {v : Value} {d : DataW H} {p : List MemPlace} (hval : Value.okWide Tryz.prog W .any base 28 v) (h0 : DataW.Trod enc Tryz.prog W 0 (fun _ => true) true 28 v d p) :
  ∃ (a : Option Addr) (n c : Nat) (F : Nat → Nat → Int), v = .slice a n c ∧ n ≤ 9223372036854775807 ∧ n ≤ c ∧ KSl 1 W (.slice a n c) n F := by
 obtain ⟨fuel, hf⟩ := h0
 obtain ⟨a, n, c, F, h1, h2, h3, h4⟩ := ksl_trod Tryz.underlying28 ints_int (by decide) hf
 exact ⟨a, n, c, F, cells_slice (okWide_slice Tryz.underlying28 hval) h1, h2, h3, h4⟩
set_option maxRecDepth 100000 in
set_option maxHeartbeats 1000000 in
theorem open_mach {H : Type} {enc : TypeId × Value → H} {W : World} {base : Nat} {v : Value} {d : DataW H} {p : List MemPlace} (hval : Value.okWide Tryz.prog W .any base 27 v) (h0 : DataW.Trod enc Tryz.prog W 0 (fun _ => true) true 27 v d p) :
  ∃ (a0 : Option Addr) (n0 c0 : Nat) (F0 : Nat → Nat → Int) (x1 z1 : Int) (x2 z2 : Int) (x3 z3 : Int) (x4 z4 : Int) (a5 : Option Addr) (n5 c5 : Nat) (F5 : Nat → Nat → Int), v = .agg #[.slice a0 n0 c0, .int .i64 x1, .int .i64 z1, .int .i64 x2, .int .i64 z2, .int .i64 x3, .int .i64 z3, .int .i64 x4, .int .i64 z4, .slice a5 n5 c5] ∧ (n0 ≤ 9223372036854775807 ∧ n0 ≤ c0 ∧ KSl 2 W (.slice a0 n0 c0) n0 F0) ∧ (n5 ≤ 9223372036854775807 ∧ n5 ≤ c5 ∧ KSl 4 W (.slice a5 n5 c5) n5 F5) := by
 obtain ⟨cs, rfl, hsz⟩ := okWide_struct Tryz.underlying27 hval
 obtain ⟨fuel, hf⟩ := h0
 rw [show Tryz.prog.cellsOf 27 = 10 from by kernel_rfl] at hsz
 obtain ⟨ys, n2, _, _, _, hyl, hff⟩ := DataW.trod_struct Tryz.underlying27 hf
 obtain ⟨l0⟩ := cs
 have g0 : l0.length = 10 := by simpa using hsz
 obtain ⟨u0, l1', rfl, g1⟩ := cons_of g0
 obtain ⟨u1, l2', rfl, g2⟩ := cons_of g1
 obtain ⟨u2, l3', rfl, g3⟩ := cons_of g2
 obtain ⟨u3, l4', rfl, g4⟩ := cons_of g3
 obtain ⟨u4, l5', rfl, g5⟩ := cons_of g4
 obtain ⟨u5, l6', rfl, g6⟩ := cons_of g5
 obtain ⟨u6, l7', rfl, g7⟩ := cons_of g6
 obtain ⟨u7, l8', rfl, g8⟩ := cons_of g7
 obtain ⟨u8, l9', rfl, g9⟩ := cons_of g8
 obtain ⟨u9, l10', rfl, g10⟩ := cons_of g9
 obtain rfl := List.eq_nil_of_length_eq_zero g10
 have hyl : ys.length = 6 := hyl
 clear hsz hval hf
 have k0 : DataW.trod enc Tryz.prog W 0 (fun _ => true) true n2 22 (([u0, u1, u2, u3, u4, u5, u6, u7, u8, u9].drop 0).take (Tryz.prog.cellsOf 22)) = ys[0]? := hff 0 _ rfl
 rw [show Tryz.prog.cellsOf 22 = 1 from by kernel_rfl] at k0
 obtain ⟨y0, hy0⟩ := some_at (i := 0) hyl (by decide)
 have k1 : DataW.trod enc Tryz.prog W 0 (fun _ => true) true n2 24 (([u0, u1, u2, u3, u4, u5, u6, u7, u8, u9].drop 1).take (Tryz.prog.cellsOf 24)) = ys[1]? := hff 1 _ rfl
 rw [show Tryz.prog.cellsOf 24 = 2 from by kernel_rfl] at k1
 obtain ⟨y1, hy1⟩ := some_at (i := 1) hyl (by decide)
 have k2 : DataW.trod enc Tryz.prog W 0 (fun _ => true) true n2 24 (([u0, u1, u2, u3, u4, u5, u6, u7, u8, u9].drop 3).take (Tryz.prog.cellsOf 24)) = ys[2]? := hff 2 _ rfl
 rw [show Tryz.prog.cellsOf 24 = 2 from by kernel_rfl] at k2
 obtain ⟨y2, hy2⟩ := some_at (i := 2) hyl (by decide)
 have k3 : DataW.trod enc Tryz.prog W 0 (fun _ => true) true n2 24 (([u0, u1, u2, u3, u4, u5, u6, u7, u8, u9].drop 5).take (Tryz.prog.cellsOf 24)) = ys[3]? := hff 3 _ rfl
 rw [show Tryz.prog.cellsOf 24 = 2 from by kernel_rfl] at k3
 obtain ⟨y3, hy3⟩ := some_at (i := 3) hyl (by decide)
 have k4 : DataW.trod enc Tryz.prog W 0 (fun _ => true) true n2 24 (([u0, u1, u2, u3, u4, u5, u6, u7, u8, u9].drop 7).take (Tryz.prog.cellsOf 24)) = ys[4]? := hff 4 _ rfl
 rw [show Tryz.prog.cellsOf 24 = 2 from by kernel_rfl] at k4
 obtain ⟨y4, hy4⟩ := some_at (i := 4) hyl (by decide)
 have k5 : DataW.trod enc Tryz.prog W 0 (fun _ => true) true n2 25 (([u0, u1, u2, u3, u4, u5, u6, u7, u8, u9].drop 9).take (Tryz.prog.cellsOf 25)) = ys[5]? := hff 5 _ rfl
 rw [show Tryz.prog.cellsOf 25 = 1 from by kernel_rfl] at k5
 obtain ⟨y5, hy5⟩ := some_at (i := 5) hyl (by decide)
 obtain ⟨a0, n0, c0, F0, e0, m0, l0, s0⟩ := ksl_trod Tryz.underlying22 ints_DrillPoint (by decide) (k0.trans hy0)
 have e0 : [u0] = [Value.slice a0 n0 c0] := e0
 obtain rfl : u0 = Value.slice a0 n0 c0 := (List.cons.inj e0).1
 obtain ⟨x1, e1⟩ := ints_span.2 _ _ _ (k1.trans hy1) rfl 0 (by decide)
 obtain ⟨z1, g1⟩ := ints_span.2 _ _ _ (k1.trans hy1) rfl 1 (by decide)
 have e1 : some u1 = some (Value.int .i64 x1) := e1
 have g1 : some u2 = some (Value.int .i64 z1) := g1
 obtain rfl : u1 = Value.int .i64 x1 := Option.some.inj e1
 obtain rfl : u2 = Value.int .i64 z1 := Option.some.inj g1
 obtain ⟨x2, e2⟩ := ints_span.2 _ _ _ (k2.trans hy2) rfl 0 (by decide)
 obtain ⟨z2, g2⟩ := ints_span.2 _ _ _ (k2.trans hy2) rfl 1 (by decide)
 have e2 : some u3 = some (Value.int .i64 x2) := e2
 have g2 : some u4 = some (Value.int .i64 z2) := g2
 obtain rfl : u3 = Value.int .i64 x2 := Option.some.inj e2
 obtain rfl : u4 = Value.int .i64 z2 := Option.some.inj g2
 obtain ⟨x3, e3⟩ := ints_span.2 _ _ _ (k3.trans hy3) rfl 0 (by decide)
 obtain ⟨z3, g3⟩ := ints_span.2 _ _ _ (k3.trans hy3) rfl 1 (by decide)
 have e3 : some u5 = some (Value.int .i64 x3) := e3
 have g3 : some u6 = some (Value.int .i64 z3) := g3
 obtain rfl : u5 = Value.int .i64 x3 := Option.some.inj e3
 obtain rfl : u6 = Value.int .i64 z3 := Option.some.inj g3
 obtain ⟨x4, e4⟩ := ints_span.2 _ _ _ (k4.trans hy4) rfl 0 (by decide)
 obtain ⟨z4, g4⟩ := ints_span.2 _ _ _ (k4.trans hy4) rfl 1 (by decide)
 have e4 : some u7 = some (Value.int .i64 x4) := e4
 have g4 : some u8 = some (Value.int .i64 z4) := g4
 obtain rfl : u7 = Value.int .i64 x4 := Option.some.inj e4
 obtain rfl : u8 = Value.int .i64 z4 := Option.some.inj g4
 obtain ⟨a5, n5, c5, F5, e5, m5, l5, s5⟩ := ksl_trod Tryz.underlying25 ints_DrillReading (by decide) (k5.trans hy5)
 have e5 : [u9] = [Value.slice a5 n5 c5] := e5
 obtain rfl : u9 = Value.slice a5 n5 c5 := (List.cons.inj e5).1
 exact ⟨a0, n0, c0, F0, x1, z1, x2, z2, x3, z3, x4, z4, a5, n5, c5, F5, rfl, ⟨m0, l0, s0⟩, ⟨m5, l5, s5⟩⟩
set_option maxRecDepth 100000 in
set_option maxHeartbeats 1000000 in
theorem open_truth {H : Type} {enc : TypeId × Value → H} {W : World} {base : Nat} {v : Value} {d : DataW H} {p : List MemPlace} (hval : Value.okWide Tryz.prog W .any base 30 v) (h0 : DataW.Trod enc Tryz.prog W 0 (fun _ => true) true 30 v d p) :
  ∃ (a0 : Option Addr) (n0 c0 : Nat) (F0 : Nat → Nat → Int) (a1 : Option Addr) (n1 c1 : Nat) (F1 : Nat → Nat → Int), v = .agg #[.slice a0 n0 c0, .slice a1 n1 c1] ∧ (n0 ≤ 9223372036854775807 ∧ n0 ≤ c0 ∧ KSl 1 W (.slice a0 n0 c0) n0 F0) ∧ (n1 ≤ 9223372036854775807 ∧ n1 ≤ c1 ∧ KSl 1 W (.slice a1 n1 c1) n1 F1) := by
 obtain ⟨cs, rfl, hsz⟩ := okWide_struct Tryz.underlying30 hval
 obtain ⟨fuel, hf⟩ := h0
 rw [show Tryz.prog.cellsOf 30 = 2 from by kernel_rfl] at hsz
 obtain ⟨ys, n2, _, _, _, hyl, hff⟩ := DataW.trod_struct Tryz.underlying30 hf
 obtain ⟨l0⟩ := cs
 have g0 : l0.length = 2 := by simpa using hsz
 obtain ⟨u0, l1', rfl, g1⟩ := cons_of g0
 obtain ⟨u1, l2', rfl, g2⟩ := cons_of g1
 obtain rfl := List.eq_nil_of_length_eq_zero g2
 have hyl : ys.length = 2 := hyl
 clear hsz hval hf
 have k0 : DataW.trod enc Tryz.prog W 0 (fun _ => true) true n2 28 (([u0, u1].drop 0).take (Tryz.prog.cellsOf 28)) = ys[0]? := hff 0 _ rfl
 rw [show Tryz.prog.cellsOf 28 = 1 from by kernel_rfl] at k0
 obtain ⟨y0, hy0⟩ := some_at (i := 0) hyl (by decide)
 have k1 : DataW.trod enc Tryz.prog W 0 (fun _ => true) true n2 28 (([u0, u1].drop 1).take (Tryz.prog.cellsOf 28)) = ys[1]? := hff 1 _ rfl
 rw [show Tryz.prog.cellsOf 28 = 1 from by kernel_rfl] at k1
 obtain ⟨y1, hy1⟩ := some_at (i := 1) hyl (by decide)
 obtain ⟨a0, n0, c0, F0, e0, m0, l0, s0⟩ := ksl_trod Tryz.underlying28 ints_int (by decide) (k0.trans hy0)
 have e0 : [u0] = [Value.slice a0 n0 c0] := e0
 obtain rfl : u0 = Value.slice a0 n0 c0 := (List.cons.inj e0).1
 obtain ⟨a1, n1, c1, F1, e1, m1, l1, s1⟩ := ksl_trod Tryz.underlying28 ints_int (by decide) (k1.trans hy1)
 have e1 : [u1] = [Value.slice a1 n1 c1] := e1
 obtain rfl : u1 = Value.slice a1 n1 c1 := (List.cons.inj e1).1
 exact ⟨a0, n0, c0, F0, a1, n1, c1, F1, rfl, ⟨m0, l0, s0⟩, ⟨m1, l1, s1⟩⟩
end Go.Proofs.YtjhpklolpmaopaaGreatDoor
namespace Go.Proofs.YtjhpklolpmaopaaGreatDoor
open Go.RowKit Go.Gen
theorem psl_of_k {w : World} {a : Option Addr} {n c : Nat} {F : Nat → Nat → Int} (h : KSl 2 w (.slice a n c) n F) : PSl w (.slice a n c) n (fun i => F i 0) (fun i => F i 1) := by
 rcases h with ⟨a', c', h1, h2⟩ | ⟨b, off, cap, h1, h2, h3⟩
 ·exact .inl ⟨a', c', h1, h2⟩
 ·exact .inr ⟨b, off, cap, h1, h2, fun i hi => ⟨h3 i hi 0 (by omega), h3 i hi 1 (by omega)⟩⟩
theorem rsl_of_k {w : World} {a : Option Addr} {n c : Nat} {F : Nat → Nat → Int} (h : KSl 4 w (.slice a n c) n F) : RSl w (.slice a n c) n (fun i => F i 0) (fun i => F i 1) (fun i => F i 2) (fun i => F i 3) := by
 rcases h with ⟨a', c', h1, h2⟩ | ⟨b, off, cap, h1, h2, h3⟩
 ·exact .inl ⟨a', c', h1, h2⟩
 ·exact .inr ⟨b, off, cap, h1, h2, fun i hi => ⟨h3 i hi 0 (by omega), h3 i hi 1 (by omega), h3 i hi 2 (by omega), h3 i hi 3 (by omega)⟩⟩
theorem isl_of_k {w : World} {a : Option Addr} {n c : Nat} {F : Nat → Nat → Int} (h : KSl 1 w (.slice a n c) n F) : IntsSl w (.slice a n c) n (fun i => F i 0) := by
 rcases h with ⟨a', c', h1, h2⟩ | ⟨b, off, cap, h1, h2, h3⟩
 ·exact .inl ⟨a', c', h1, h2⟩
 ·exact .inr ⟨b, off, cap, h1, h2, fun i hi => by have := h3 i hi 0 (by omega); rw [Nat.mul_one] at this; exact this⟩
/-- a machine out of a row's reading. -/
@[reducible] def machK (sa : Option Addr) (sn sc : Nat) (S : Nat → Nat → Int) (c0 c1 d0 d1 w0 w1 v0 v1 : Int) (ra : Option Addr) (rn rc : Nat) (R : Nat → Nat → Int) : Mach :=
 ⟨sa, sn, sc, fun i => S i 0, fun i => S i 1, c0, c1, d0, d1, w0, w1, v0, v1, ra, rn, rc, fun i => R i 0, fun i => R i 1, fun i => R i 2, fun i => R i 3⟩
theorem min_of_k {w : World} {sa : Option Addr} {sn sc : Nat} {S : Nat → Nat → Int} {c0 c1 d0 d1 w0 w1 v0 v1 : Int} {ra : Option Addr} {rn rc : Nat} {R : Nat → Nat → Int} (h1 : KSl 2 w (.slice sa sn sc) sn S) (h2 : KSl 4 w (.slice ra rn rc) rn R) : MIn w (machK sa sn sc S c0 c1 d0 d1 w0 w1 v0 v1 ra rn rc R) := ⟨psl_of_k h1, rsl_of_k h2⟩
end Go.Proofs.YtjhpklolpmaopaaGreatDoor
