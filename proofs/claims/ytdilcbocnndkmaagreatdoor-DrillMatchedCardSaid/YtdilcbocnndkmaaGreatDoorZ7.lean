/- A part of the proof: see the last file. -/
import Derived.Test.YtdilcbocnndkmaaGreatDoorZ3
import Derived.Test.YtdilcbocnndkmaaGreatDoorY14
set_option linter.unusedVariables false
set_option linter.unusedSimpArgs false
set_option linter.unusedSectionVars false
namespace Go.Proofs.YtdilcbocnndkmaaGreatDoor
open Go.ChangeShapes Go.WideShapes Go.ChangeAt Go.WideMaps Go.WideElems Go.RowKit Go.Deep
section
variable {H : Type} {enc : TypeId × Value → H} {W : World}
theorem ints_trod {fuel : Nat} {cs : List Value} {y : DataW H × List MemPlace} (hf : DataW.trod enc Tryz.prog W 0 (fun _ => true) true fuel 34 cs = some y) :
    ∃ (a : Option Addr) (n c : Nat) (F : Nat → Int), cs = [.slice a n c] ∧ n ≤ 9223372036854775807 ∧ IntsSl W (.slice a n c) n F ∧ n ≤ c := by
  rcases open_slice Tryz.underlying34 hf with ⟨h1, _⟩ | ⟨a, len, cap, m, n', D, Pl, hcs, _, hl, hm, hmm, _, hi⟩
  · exact ⟨none, 0, 0, fun _ => 0, h1, by omega, .inl ⟨none, 0, rfl, rfl⟩, Nat.le_refl _⟩
  · have hmax : len ≤ 9223372036854775807 := by unfold maxLen at hm; omega
    have hmc : m = cap := hmm
    subst hmc
    have each : ∀ i, i < m → ∃ x : Int, W.cell? (a.add (i * 1)) = some (.int .i64 x) := fun i hi' => by
      obtain ⟨cs', hc, ht'⟩ := hi i hi'
      rw [c1_3] at hc
      obtain ⟨_, hcl, hat⟩ := World.cells?_some hc
      obtain ⟨u, rfl⟩ : ∃ u, cs' = [u] := List.length_eq_one_iff.1 hcl
      obtain ⟨x, e1, _⟩ := DataW.trod_int Tryz.underlying3 ht'
      have e1 : [u] = [Value.int .i64 x] := e1
      rw [List.cons.injEq] at e1
      refine ⟨x, ?_⟩
      have h3 := hat 0 (by omega)
      rw [add_zero'] at h3
      rw [h3, ← e1.1]; rfl
    refine ⟨some a, len, m, fun i => intOf ((W.cell? ⟨a.block, a.off + i, none⟩).getD undef), hcs, hmax, ?_, hl⟩
    rcases Nat.eq_zero_or_pos m with hz | hpos
    · have : len = 0 := by omega
      subst this
      exact .inl ⟨some a, m, rfl, rfl⟩
    · obtain ⟨x0, hx0⟩ := each 0 hpos
      have hlt := World.block_lt_of_cell? W _ hx0
      rw [Nat.zero_mul, add_zero'] at hx0
      have hsp := spot_of hx0
      obtain ⟨b, off, sp⟩ := a
      dsimp only at hsp
      subst hsp
      refine .inr ⟨b, off, m, rfl, hlt, fun i hi2 => ?_⟩
      obtain ⟨x, hx⟩ := each i (by omega)
      rw [Nat.mul_one, Go.Can.add_none] at hx
      show W.cell? ⟨b, off + i, none⟩ = some (.int .i64 (intOf ((W.cell? ⟨b, off + i, none⟩).getD undef)))
      rw [hx]; rfl
set_option maxRecDepth 100000 in
theorem intsl_of {base : Nat} {v : Value} {d : DataW H} {p : List MemPlace} (hval : Value.okWide Tryz.prog W .any base 34 v) (h0 : DataW.Trod enc Tryz.prog W 0 (fun _ => true) true 34 v d p) :
    ∃ (a : Option Addr) (n c : Nat) (F : Nat → Int), v = .slice a n c ∧ n ≤ 9223372036854775807 ∧ IntsSl W (.slice a n c) n F := by
  obtain ⟨fuel, hf⟩ := h0
  obtain ⟨a, n, c, F, h1, h2, h3, _⟩ := ints_trod hf
  exact ⟨a, n, c, F, cell_one (okWide_slice Tryz.underlying34 hval) h1, h2, h3⟩
end
theorem matched_all {a1 : Option Addr} {n1 c1 : Nat} {r : Int} {a2 : Option Addr} {n2 c2 : Nat} {HX HY PX PY : Nat → Int} {t : Int} {a3 : Option Addr} {n3 c3 : Nat} {F : Nat → Int} {w : World} (m1 : n1 ≤ 9223372036854775807) (m2 : n2 ≤ 9223372036854775807) (m3 : n3 ≤ 9223372036854775807) (hk : KG w) (hp1 : PSc w (.slice a1 n1 c1) n1 HX HY) (hp2 : PSc w (.slice a2 n2 c2) n2 PX PY) (ho : IntsSl w (.slice a3 n3 c3) n3 F) :
    Calls Tryz.prog 5 #[.agg #[.slice a1 n1 c1, .int .i64 r], .slice a2 n2 c2, .int .i64 t, .slice a3 n3 c3] w fun e w' => e = .returned (.bool true) ∧ Below w.heap.size w w' := by
  by_cases h2 : n2 ≤ 6
  · by_cases h1 : n1 ≤ 6
    · by_cases h3 : n3 ≤ 6
      · cases h : measB n1 HX HY r with
        | false => exact matched_meas a1 n1 c1 r a2 n2 c2 t a3 n3 c3 w hk HX HY PX PY h2 h1 h3 hp1 hp2.1 h
        | true =>
          cases hpon : ponB n2 n1 n1 PX PY 80 with
          | false => exact matched_odd a1 n1 c1 r a2 n2 c2 t a3 n3 c3 w hk HX HY PX PY h2 h1 h3 hp1 hp2.1 h hpon
          | true =>
            cases ht : inB t 0 7 with
            | false => exact matched_turn a1 n1 c1 r a2 n2 c2 t a3 n3 c3 w hk HX HY PX PY h2 h1 h3 hp1 hp2.1 h hpon ht
            | true =>
              cases hor : ordB n3 F n2 with
              | false => exact matched_order a1 n1 c1 r a2 n2 c2 t a3 n3 c3 w hk HX HY PX PY h2 h1 h3 hp1 hp2.1 F ho h hpon ht hor
              | true =>
                obtain ⟨⟨q1, q2⟩, _, _⟩ := meas_parts h
                obtain ⟨rfl, ha⟩ := pon_parts hpon q2
                obtain ⟨z1, z2⟩ := inB_iff.1 ht
                obtain ⟨m, rfl⟩ : ∃ m : Nat, t = m := ⟨t.toNat, by omega⟩
                have hn : n3 = n2 := by
                  unfold ordB at hor
                  rw [Bool.and_eq_true, decide_eq_true_iff, decide_eq_true_iff] at hor
                  omega
                subst hn
                obtain ⟨q, hq, hF⟩ := ordB_ords q1 q2 hor
                rcases ho with ⟨_, _, _, h0⟩ | ⟨b3, o3, k3, e3, l3, p3⟩
                · omega
                · cases e3
                  have hoa : OrdAt w b3 o3 n3 q := fun i hi => by rw [p3 i hi, hF i hi]
                  cases hs : matchS n3 HX HY PX PY r with
                  | none => exact matched_none a1 c1 r a2 n3 c2 m b3 o3 c3 w hk HX HY PX PY hp1 hp2.1 h ha (by omega) q hq hoa l3 hs
                  | some y =>
                    obtain ⟨t1, p⟩ := y
                    cases hag : agQ (fitB HX HY PX PY r m) n3 q with
                    | false => exact matched_not a1 c1 r a2 n3 c2 m b3 o3 c3 w hk HX HY PX PY hp1 hp2.1 h ha (by omega) q hq hoa l3 t1 p hs hag
                    | true =>
                      obtain ⟨y1, y2, y3, y4, y5⟩ := matchS_some q1 q2 hs
                      rcases Nat.lt_trichotomy t1 m with hlt | rfl | hgt
                      · exact matched_later a1 c1 r a2 n3 c2 m b3 o3 c3 w hk HX HY PX PY hp1 hp2.1 h ha (by omega) q hq hoa l3 t1 p hs hag hlt
                      · exact matched_same a1 c1 r a2 n3 c2 t1 b3 o3 c3 w hk HX HY PX PY hp1 hp2.1 h ha (by omega) q hq hoa l3 p hs hag
                      · have := y4 m hgt q hq
                        rw [hag] at this; cases this
      · exact matched_long3 a1 n1 c1 r a2 n2 c2 t a3 n3 c3 w hk h2 h1 (by omega) m3
    · exact matched_long1 a1 n1 c1 r a2 n2 c2 t a3 n3 c3 w hk h2 (by omega) m1
  · exact matched_long2 a1 n1 c1 r a2 n2 c2 t a3 n3 c3 w hk (by omega) m2
end Go.Proofs.YtdilcbocnndkmaaGreatDoor
