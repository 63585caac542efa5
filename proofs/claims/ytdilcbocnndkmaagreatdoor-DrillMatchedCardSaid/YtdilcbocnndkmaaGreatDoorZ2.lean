/- A part of the proof: see the last file. -/
import Derived.Test.YtdilcbocnndkmaaGreatDoorZ1
import Derived.ChangeSame
set_option linter.unusedVariables false
set_option linter.unusedSimpArgs false
set_option linter.unusedSectionVars false
namespace Go.Proofs.YtdilcbocnndkmaaGreatDoor
open Go.ChangeShapes Go.WideShapes Go.ChangeAt Go.RowKit Go.Deep

theorem two_of {α : Type} : ∀ {l : List α}, l.length = 2 → ∃ u v, l = [u, v]
  | [u, v], _ => ⟨u, v, rfl⟩
theorem some_of {α : Type} {l : List α} {n i : Nat} (h : l.length = n) (hi : i < n) : ∃ y, l[i]? = some y := ⟨l[i]'(by omega), List.getElem?_eq_getElem (by omega)⟩
theorem add_zero' (a : Addr) : a.add 0 = a := by
  obtain ⟨b, o, s⟩ := a
  cases s <;> simp [Addr.add]
theorem spot_of {W : World} {a : Addr} {v : Value} (hx0 : W.cell? a = some v) : a.spot = none := by
  unfold World.cell? at hx0
  split at hx0
  · split at hx0
    · cases hx0
    · next hns => cases e : a.spot with
      | none => rfl
      | some s => rw [e] at hns; exact absurd rfl hns
  · cases hx0
section
variable {H : Type} {enc : TypeId × Value → H} {W : World}
theorem psc_trod {fuel : Nat} {cs : List Value} {y : DataW H × List MemPlace} (hf : DataW.trod enc Tryz.prog W 0 (fun _ => true) true fuel 22 cs = some y) :
    ∃ (a : Option Addr) (n c : Nat) (X Y : Nat → Int), cs = [.slice a n c] ∧ n ≤ 9223372036854775807 ∧ PSc W (.slice a n c) n X Y := by
  rcases open_slice Tryz.underlying22 hf with ⟨h1, _⟩ | ⟨a, len, cap, m, n', D, Pl, hcs, _, hl, hm, hmm, _, hi⟩
  · exact ⟨none, 0, 0, fun _ => 0, fun _ => 0, h1, by omega, .inl ⟨none, 0, rfl, rfl⟩, none, 0, rfl, Nat.le_refl _⟩
  · have hmax : len ≤ 9223372036854775807 := by unfold maxLen at hm; omega
    have hmc : m = cap := hmm
    subst hmc
    have c33 : Tryz.prog.cellsOf 33 = 2 := by kernel_rfl
    have each : ∀ i, i < m → ∃ x y : Int, W.cell? (a.add (i * 2)) = some (.int .i64 x) ∧ W.cell? ((a.add (i * 2)).add 1) = some (.int .i64 y) := fun i hi' => by
      obtain ⟨cs', hc, ht'⟩ := hi i hi'
      rw [c33] at hc
      obtain ⟨_, hcl, hat⟩ := World.cells?_some hc
      obtain ⟨ys, n2, _, _, _, hyl, hff⟩ := DataW.trod_struct Tryz.underlying33 ht'
      obtain ⟨u, v, rfl⟩ := two_of hcl
      have k0 := hff 0 _ rfl
      have k1 := hff 1 _ rfl
      change DataW.trod enc Tryz.prog W 0 (fun _ => true) true n2 3 (([u, v].drop 0).take (Tryz.prog.cellsOf 3)) = ys[0]? at k0
      change DataW.trod enc Tryz.prog W 0 (fun _ => true) true n2 3 (([u, v].drop 1).take (Tryz.prog.cellsOf 3)) = ys[1]? at k1
      rw [c1_3] at k0 k1
      obtain ⟨y0, hy0⟩ := some_of (i := 0) hyl (by decide)
      obtain ⟨y1, hy1⟩ := some_of (i := 1) hyl (by decide)
      obtain ⟨x, e1, _⟩ := DataW.trod_int Tryz.underlying3 (k0.trans hy0)
      obtain ⟨y, e2, _⟩ := DataW.trod_int Tryz.underlying3 (k1.trans hy1)
      have e1 : [u] = [Value.int .i64 x] := e1
      have e2 : [v] = [Value.int .i64 y] := e2
      rw [List.cons.injEq] at e1 e2
      refine ⟨x, y, ?_, ?_⟩
      · have h3 := hat 0 (by omega)
        rw [add_zero'] at h3
        rw [h3, ← e1.1]; rfl
      · have h3 := hat 1 (by omega)
        rw [h3, ← e2.1]; rfl
    refine ⟨some a, len, m, fun i => intOf ((W.cell? ⟨a.block, a.off + i * 2, none⟩).getD undef), fun i => intOf ((W.cell? ⟨a.block, a.off + i * 2 + 1, none⟩).getD undef), hcs, hmax, ?_, some a, m, rfl, hl⟩
    rcases Nat.eq_zero_or_pos m with hz | hpos
    · have : len = 0 := by omega
      subst this
      exact .inl ⟨some a, m, rfl, rfl⟩
    · obtain ⟨x0, _, hx0, _⟩ := each 0 hpos
      have hlt := World.block_lt_of_cell? W _ hx0
      rw [Nat.zero_mul, add_zero'] at hx0
      have hsp := spot_of hx0
      obtain ⟨b, off, sp⟩ := a
      dsimp only at hsp
      subst hsp
      refine .inr ⟨b, off, m, rfl, hlt, fun i hi2 => ?_⟩
      obtain ⟨x, y, hx, hy⟩ := each i (by omega)
      rw [Go.Can.add_none] at hx hy
      rw [Go.Can.add_none] at hy
      constructor
      · show W.cell? ⟨b, off + i * 2, none⟩ = some (.int .i64 (intOf ((W.cell? ⟨b, off + i * 2, none⟩).getD undef)))
        rw [hx]; rfl
      · show W.cell? ⟨b, off + i * 2 + 1, none⟩ = some (.int .i64 (intOf ((W.cell? ⟨b, off + i * 2 + 1, none⟩).getD undef)))
        rw [hy]; rfl
theorem cell_one {v : Value} {a : Option Addr} {n c : Nat} (hs : ∃ a n c, v = .slice a n c) (h : v.cells.toList = [.slice a n c]) : v = .slice a n c := by
  obtain ⟨a', n', c', rfl⟩ := hs
  simpa [Value.cells] using h
set_option maxRecDepth 100000 in
theorem psc_of {base : Nat} {v : Value} {d : DataW H} {p : List MemPlace} (hval : Value.okWide Tryz.prog W .any base 22 v) (h0 : DataW.Trod enc Tryz.prog W 0 (fun _ => true) true 22 v d p) :
    ∃ (a : Option Addr) (n c : Nat) (X Y : Nat → Int), v = .slice a n c ∧ n ≤ 9223372036854775807 ∧ PSc W (.slice a n c) n X Y := by
  obtain ⟨fuel, hf⟩ := h0
  obtain ⟨a, n, c, X, Y, h1, h2, h3⟩ := psc_trod hf
  exact ⟨a, n, c, X, Y, cell_one (okWide_slice Tryz.underlying22 hval) h1, h2, h3⟩
set_option maxRecDepth 100000 in
theorem meas_of {base : Nat} {v : Value} {d : DataW H} {p : List MemPlace} (hval : Value.okWide Tryz.prog W .any base 24 v) (h0 : DataW.Trod enc Tryz.prog W 0 (fun _ => true) true 24 v d p) :
    ∃ (a : Option Addr) (n c : Nat) (r : Int) (X Y : Nat → Int), v = .agg #[.slice a n c, .int .i64 r] ∧ n ≤ 9223372036854775807 ∧ PSc W (.slice a n c) n X Y := by
  obtain ⟨cs, rfl, hsz⟩ := okWide_struct Tryz.underlying24 hval
  obtain ⟨fuel, hf⟩ := h0
  have c24 : Tryz.prog.cellsOf 24 = 2 := by kernel_rfl
  have c22 : Tryz.prog.cellsOf 22 = 1 := by kernel_rfl
  rw [c24] at hsz
  obtain ⟨y0, y1, n2, _, _, k0, k1⟩ := trod_struct2 Tryz.underlying24 hf
  obtain ⟨l⟩ := cs
  obtain ⟨u, w, rfl⟩ := two_of (l := l) (by simpa using hsz)
  have k0 : DataW.trod enc Tryz.prog W 0 (fun _ => true) true n2 22 (([u, w].drop 0).take (Tryz.prog.cellsOf 22)) = some y0 := k0
  have k1 : DataW.trod enc Tryz.prog W 0 (fun _ => true) true n2 3 (([u, w].drop 1).take (Tryz.prog.cellsOf 3)) = some y1 := k1
  rw [c22] at k0
  rw [c1_3] at k1
  obtain ⟨a, n, c, X, Y, h1, h2, h3⟩ := psc_trod k0
  obtain ⟨r, e1, _⟩ := DataW.trod_int Tryz.underlying3 k1
  have e0 : [u] = [Value.slice a n c] := h1
  have e1 : [w] = [Value.int .i64 r] := e1
  rw [List.cons.injEq] at e0 e1
  exact ⟨a, n, c, r, X, Y, by rw [e0.1, e1.1], h2, h3⟩
end
end Go.Proofs.YtdilcbocnndkmaaGreatDoor
