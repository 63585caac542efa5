/- A part of the proof: see the last file. -/
import Derived.Test.YtdilcbocnndkmaaGreatDoorX1
import Derived.Test.YtdilcbocnndkmaaGreatDoorX2
import Derived.Test.YtdilcbocnndkmaaGreatDoorX3
import Derived.RangeFuncNested
import Derived.RangeFuncBound
import Derived.RangeFuncCalls
import Derived.RangeFuncLeaves
import Derived.Shelf.Abstract
import Derived.Shelf.RegionOpen
import Derived.OwnWalkIn
import Derived.TacticsInMore
import Derived.LoopNIn
import Derived.LoopIn
import Derived.Maps.AppendAt
set_option linter.unusedVariables false
set_option linter.unusedSimpArgs false
set_option linter.unusedSectionVars false
namespace Go.Proofs.YtdilcbocnndkmaaGreatDoor
open Go.RowKit Go.Shelf
attribute [local go_sem] Oper.semAt_some
def scan (f : Nat → Option (List Nat)) : Nat → Nat → Option (List Nat)
  | _, 0 => none
  | j, m+1 => match f j with
    | some q => some q
    | none => scan f (j+1) m
/-- the first order that goes on from p, if d places are still free. -/
def firstC (fit : Nat → Nat → Bool) (many : Nat) : Nat → List Nat → Option (List Nat)
  | 0, p => some p
  | d+1, p => scan (fun j => if p.contains j || !fit p.length j then none else firstC fit many d (p ++ [j])) 0 many
def cellsN (p : List Nat) : List Value := p.map fun (j : Nat) => Value.int .i64 (j : Int)
/-- what the search has of its own: the box of the order with p in it, the box of yield, the box of extend. -/
structure Own4 (B l bo bm by_ bf be : Nat) (p : List Nat) (W : World) : Prop where
  ord : ∃ v, W.cell? ⟨bo, 0, none⟩ = some v ∧ W.ownsRow (be + 1) 3 1 v p.length (cellsN p)
  fro : W.frozen? ⟨bo, 0, none⟩ = false
  yie : W.cell? ⟨by_, 0, none⟩ = some (.func (.yield l) #[] #[])
  ext : W.cell? ⟨be, 0, none⟩ = some (.func (.func 144) #[] #[.pointer (some ⟨bo, 0, none⟩), .pointer (some ⟨bm, 0, none⟩), .pointer (some ⟨by_, 0, none⟩), .pointer (some ⟨bf, 0, none⟩), .pointer (some ⟨be, 0, none⟩)])
  lto : B ≤ bo ∧ bo < be
  lty : B ≤ by_ ∧ by_ < be
  lte : be < W.heap.size
  neq : bo ≠ by_
/-- Stop: a block that is the caller's (below B) may have been turned; the search's own blocks lie as they lay. -/
def KeptFrom (B : Nat) (W W' : World) : Prop := W.heap.size ≤ W'.heap.size ∧ ∀ k, B ≤ k → k < W.heap.size → W'.heap[k]? = W.heap[k]?
theorem KeptFrom.cell {B : Nat} {W W' : World} (h : KeptFrom B W W') {k o : Nat} (hk : B ≤ k) (hl : k < W.heap.size) : W'.cell? ⟨k, o, none⟩ = W.cell? ⟨k, o, none⟩ := World.cell?_of_block (w := W) (h.2 k hk hl)
theorem KeptFrom.frozen {B : Nat} {W W' : World} (h : KeptFrom B W W') {k o : Nat} (hk : B ≤ k) (hl : k < W.heap.size) : W'.frozen? ⟨k, o, none⟩ = W.frozen? ⟨k, o, none⟩ := World.frozen?_of_block (w := W) (h.2 k hk hl)
theorem Own4.kept {B l bo bm by_ bf be : Nat} {p : List Nat} {W W' : World} (h : Own4 B l bo bm by_ bf be p W) (hk : KeptFrom B W W') : Own4 B l bo bm by_ bf be p W' := by
  have h1 := h.lto; have h2 := h.lty; have h3 := h.lte
  refine ⟨?_, (hk.frozen h1.1 (by omega)).trans h.fro, (hk.cell h2.1 (by omega)).trans h.yie, (hk.cell (by omega) h3).trans h.ext, h1, h2, Nat.lt_of_lt_of_le h3 hk.1, h.neq⟩
  obtain ⟨v, a, r1, r2⟩ := h.ord
  refine ⟨v, (hk.cell h1.1 (by omega)).trans a, r1, ?_⟩
  rcases r2 with r2 | ⟨g, cap, cur, a1, a2, a3, a4⟩
  · exact .inl r2
  · have hg : g < W.heap.size := (Array.getElem?_eq_some_iff.1 a3).1
    exact .inr ⟨g, cap, cur, a1, a2, by rw [hk.2 g (by omega) hg]; exact a3, a4⟩
theorem ownsRow_slice {w : World} {B : Nat} {e : TypeId} {size : Nat} {v : Value} {n : Nat} {xs : List Value} (h : w.ownsRow B e size v n xs) : ∃ a c, v = .slice a n c := by
  obtain ⟨h1, ⟨h2, rfl⟩ | ⟨g, cap, cur, a1, a2, a3, a4, a5, a6, a7⟩⟩ := h
  · exact ⟨none, 0, h2⟩
  · exact ⟨_, cap, a1⟩
theorem scan_no {f : Nat → Option (List Nat)} {j n : Nat} (h : j < n) (hf : f j = none) : scan f j (n - j) = scan f (j+1) (n - (j+1)) := by
  obtain ⟨m, hm⟩ : ∃ m, n - j = m + 1 := ⟨n - j - 1, by omega⟩
  rw [hm, show n - (j+1) = m by omega]; conv => lhs; unfold scan
  rw [hf]
theorem scan_yes {f : Nat → Option (List Nat)} {j n : Nat} {q : List Nat} (h : j < n) (hf : f j = some q) : scan f j (n - j) = some q := by
  obtain ⟨m, hm⟩ : ∃ m, n - j = m + 1 := ⟨n - j - 1, by omega⟩
  rw [hm]; unfold scan
  rw [hf]
theorem KeptFrom.of_below {B : Nat} {W W' : World} (h : Below W.heap.size W W') : KeptFrom B W W' := ⟨h.size, fun k _ hk => h.block k hk⟩
theorem cellsN_has {p : List Nat} {w : World} {B : Nat} {v : Value} (h : w.ownsRow B 3 1 v p.length (cellsN p)) : IntsSl w v p.length fun i => (p.getD i 0 : Int) := by
  rcases ownsRow_lt h with ⟨e1, e2⟩ | ⟨g, c, e1, e2, e3⟩
  · exact .inl ⟨none, 0, e1, e2⟩
  · refine .inr ⟨g, 0, c, e1, e2, fun i hi => ?_⟩
    rw [Nat.zero_add]
    refine e3 i _ ?_
    unfold cellsN
    rw [List.getElem?_map, List.getElem?_eq_getElem hi]
    show _ = some (Value.int IntKind.i64 (p.getD i 0 : Nat))
    rw [List.getD_eq_getElem?_getD, List.getElem?_eq_getElem hi]; rfl
theorem hasB_list {p : List Nat} {j : Nat} : hasB (fun i => (p.getD i 0 : Int)) j p.length = p.contains j := by
  rw [Bool.eq_iff_iff, hasB_iff, List.contains_iff_mem, List.mem_iff_getElem]
  constructor
  · rintro ⟨i, hi, e⟩
    refine ⟨i, hi, ?_⟩
    rw [List.getD_eq_getElem?_getD, List.getElem?_eq_getElem hi] at e
    exact Int.ofNat_inj.1 e
  · rintro ⟨i, hi, e⟩
    refine ⟨i, hi, ?_⟩
    rw [List.getD_eq_getElem?_getD, List.getElem?_eq_getElem hi, ← e]; rfl
theorem ownsRow_cut {w : World} {B k : Nat} {e : TypeId} {a : Option Addr} {c : Nat} {x : Value} {xs : List Value} (hx : xs.length = k) (h : w.ownsRow B e 1 (.slice a (k+1) c) (k+1) (xs ++ [x])) : w.ownsRow B e 1 (.slice a k c) k xs := by
  obtain ⟨h1, ⟨h2, h3⟩ | ⟨g, cap, cur, a1, a2, a3, a4, a5, a6, a7⟩⟩ := h
  · exact absurd h3 (by omega)
  · cases a1
    refine ⟨by omega, .inr ⟨g, c, cur, rfl, a2, a3, by omega, a5, a6, ?_⟩⟩
    have : (cur.toList.take ((k+1) * 1)).take k = xs := by rw [a7, ← hx]; simp
    rw [← this, List.take_take]; congr 1; omega
theorem ownsRow_room {w : World} {B n : Nat} {e : TypeId} {size : Nat} {a : Option Addr} {k c : Nat} {xs : List Value} (h : w.ownsRow B e size (.slice a (k+1) c) n xs) : k + 1 ≤ c ∧ ∃ g, a = some ⟨g, 0, none⟩ := by
  obtain ⟨h1, ⟨h2, h3⟩ | ⟨g, cap, cur, a1, a2, a3, a4, a5, a6, a7⟩⟩ := h
  · cases h2
  · cases a1; exact ⟨a4, g, rfl⟩
theorem KeptFrom.set {B : Nat} {W : World} {a : Addr} (h : a.block < B) (v : Value) : KeptFrom B W (W.setCell a v) :=
  ⟨((Below.refl 0 W).setCell (Nat.zero_le _) v).size, fun k hk _ => Below.heap_setCell W a v k (by omega)⟩
theorem ownsRow_kept {w w' : World} {B : Nat} {e : TypeId} {size : Nat} {v : Value} {n : Nat} {xs : List Value} (h : w.ownsRow B e size v n xs) (hb : KeptFrom B w w') : w'.ownsRow B e size v n xs := by
  obtain ⟨h1, h2⟩ := h
  refine ⟨h1, ?_⟩
  rcases h2 with h2 | ⟨g, cap, cur, a1, a2, a3, a4⟩
  · exact .inl h2
  · have hg : g < w.heap.size := (Array.getElem?_eq_some_iff.1 a3).1
    exact .inr ⟨g, cap, cur, a1, a2, by rw [hb.2 g a2 hg]; exact a3, a4⟩
theorem own4_store {B l bo bm by_ bf be : Nat} {q : List Nat} {W : World} {u v : Value} (hold : W.cell? ⟨bo, 0, none⟩ = some u) (fro : W.frozen? ⟨bo, 0, none⟩ = false) (yie : W.cell? ⟨by_, 0, none⟩ = some (.func (.yield l) #[] #[]))
    (ext : W.cell? ⟨be, 0, none⟩ = some (.func (.func 144) #[] #[.pointer (some ⟨bo, 0, none⟩), .pointer (some ⟨bm, 0, none⟩), .pointer (some ⟨by_, 0, none⟩), .pointer (some ⟨bf, 0, none⟩), .pointer (some ⟨be, 0, none⟩)]))
    (lto : B ≤ bo ∧ bo < be) (lty : B ≤ by_ ∧ by_ < be) (lte : be < W.heap.size) (neq : bo ≠ by_) (hrow : W.ownsRow (be + 1) 3 1 v q.length (cellsN q)) : Own4 B l bo bm by_ bf be q (W.setCell ⟨bo, 0, none⟩ v) := by
  have hs := ((Below.refl 0 W).setCell (p := ⟨bo, 0, none⟩) (Nat.zero_le _) v).size
  refine ⟨⟨v, World.cell?_setCell_same' _ _ _ (by rw [hold]; rfl), ownsRow_kept hrow (KeptFrom.set (show bo < be + 1 by omega) v)⟩, by rw [World.frozen?_setCell]; exact fro, ?_, ?_, lto, lty, Nat.lt_of_lt_of_le lte hs, neq⟩
  · exact (World.cell?_of_block (Below.heap_setCell W _ v by_ (Ne.symm neq))).trans yie
  · exact (World.cell?_of_block (Below.heap_setCell W _ v be (by show be ≠ bo; omega))).trans ext
set_option maxRecDepth 100000 in
set_option maxHeartbeats 2000000 in
theorem extend_in (many B l bo bm by_ bf be : Nat) (c1 c2 c3 c4 : Value) (fit : Nat → Nat → Bool) (W1 : World) (R : List Nat → World → Prop)
    (hm : W1.cell? ⟨bm, 0, none⟩ = some (.int .i64 many)) (hbm : bm < B) (hf : W1.cell? ⟨bf, 0, none⟩ = some (.func (.func 98) #[] #[c1, c2, c3, c4])) (hbf : bf < B) (hmany : many ≤ 6)
    (hfit : ∀ (i j : Nat) (W : World), i < many → j < many → Below B W1 W → Calls Tryz.prog 98 #[.int .i64 i, .int .i64 j, c1, c2, c3, c4] W fun e W' => e = .returned (.bool (fit i j)) ∧ Below W.heap.size W W')
    (hY : ∀ m q v W, Below B W1 W → q.length = many → be < W.heap.size → W.ownsRow (be + 1) 3 1 v many (cellsN q) → YieldAt Fence.wide m Tryz.prog l #[v] W fun e W' => e = .returned (.bool false) ∧ R q W' ∧ KeptFrom B W W')
    (hR : ∀ q W v, R q W → R q (W.setCell ⟨bo, 0, none⟩ v)) :
    ∀ (d n : Nat) (p : List Nat) (W : World), p.length + d = many → Below B W1 W → Own4 B l bo bm by_ bf be p W →
      CallsIn Fence.wide n Tryz.prog 144 #[.pointer (some ⟨bo, 0, none⟩), .pointer (some ⟨bm, 0, none⟩), .pointer (some ⟨by_, 0, none⟩), .pointer (some ⟨bf, 0, none⟩), .pointer (some ⟨be, 0, none⟩)] W fun e W' =>
        (e = .returned (.bool true) ∧ firstC fit many d p = none ∧ Below B W1 W' ∧ Own4 B l bo bm by_ bf be p W') ∨
        (e = .returned (.bool false) ∧ ∃ q, firstC fit many d p = some q ∧ R q W' ∧ Own4 B l bo bm by_ bf be p W') := by
  intro d
  induction d with
  | zero =>
    intro n p W hp hB hO
    have hO' := hO
    obtain ⟨⟨v, ho, hrow⟩, hfro, hyie, hext, hlo, hly, hle, hne⟩ := hO
    have hmW := (hB.cell (p := ⟨bm, 0, none⟩) hbm).trans hm
    have hl : p.length = many := by omega
    refine callsIn_of_wp Tryz.func144 rfl trivial ?_ rfl
    simp only [Tryz.ntmps144, List.size_toArray, List.length_cons, List.length_nil, Nat.reduceAdd, Nat.reduceSub, Array.replicate_succ, Array.replicate_zero, List.push_toArray, List.append_toArray, List.nil_append, List.cons_append]
    obtain ⟨fn, tmps, assign, body, hy, hRd⟩ := hY (n - 1) p v W hB hl hle (by rw [← hl]; exact hrow)
    obtain ⟨a, c, rfl⟩ := ownsRow_slice hrow
    rw [hl] at ho hy
    gi_wp2
    refine ⟨fun h => (by cases h), hRd.mono ?_⟩
    rintro e W2 ⟨rfl, hR2, hk2⟩
    gi_wp2
    go_ret
    exact .inr ⟨rfl, p, rfl, hR2, hO'.kept hk2⟩
  | succ d ih =>
    intro n p W hp hB hO
    have hO' := hO
    obtain ⟨⟨v, ho, hrow⟩, hfro, hyie, hext, hlo, hly, hle, hne⟩ := hO
    have hmW := (hB.cell (p := ⟨bm, 0, none⟩) hbm).trans hm
    have hl : p.length < many := by omega
    refine callsIn_of_wp Tryz.func144 rfl trivial ?_ rfl
    simp only [Tryz.ntmps144, List.size_toArray, List.length_cons, List.length_nil, Nat.reduceAdd, Nat.reduceSub, Array.replicate_succ, Array.replicate_zero, List.push_toArray, List.append_toArray, List.nil_append, List.cons_append]
    obtain ⟨a, c, rfl⟩ := ownsRow_slice hrow
    have hnm : ((p.length : Int) == (many : Int)) = false := by simp; omega
    gi_wp2
    gi_loopw [18] (fun i wr => ∃ j : Nat, j ≤ many ∧ i = .int .i64 j ∧ Below B W1 wr ∧ Own4 B l bo bm by_ bf be p wr ∧ firstC fit many (d+1) p = scan (fun j => if p.contains j || !fit p.length j then none else firstC fit many d (p ++ [j])) j (many - j)) (fun i _ => many - (intOf i).toNat)
    case atStart => exact ⟨0, Nat.zero_le _, rfl, hB, hO', rfl⟩
    case round =>
      obtain ⟨j, hj, rfl, hBr, hOr, hsc⟩ := hrel
      clear hO' hrow ho hfro hyie hext hlo hly hle hne hmW hB
      have hO' := hOr
      obtain ⟨⟨v, ho, hrow⟩, hfro, hyie, hext, hlo, hly, hle, hne⟩ := hOr
      obtain ⟨a2, c2, rfl⟩ := ownsRow_slice hrow
      by_cases hlt : j < many
      · cases hc : p.contains j with
        | true =>
          have hh := (intHas_any _ _ _ (j : Int) wr (by omega) (cellsN_has hrow))
          rw [hasB_list, hc] at hh
          gi_wp2_with (refine ⟨trivial, fun h => (by cases h), ?_⟩; gi_at_call 145; refine (callsIn_wide.2 hh).mono ?_; rintro e w2 ⟨rfl, hb2⟩)
          refine ⟨fun _ h => (by cases h), ?_⟩
          gi_wp2
          go_roundw
          case rel =>
            exact ⟨j + 1, by omega, by go_num, hBr.trans (hb2.mono (by omega)), hO'.kept (KeptFrom.of_below hb2), hsc.trans (scan_no hlt (by rw [hc]; rfl))⟩
          case measure => simp [intOf]; omega
        | false =>
          have hh := (intHas_any _ _ _ (j : Int) wr (by omega) (cellsN_has hrow))
          rw [hasB_list, hc] at hh
          have hfr := (hBr.cell (p := ⟨bf, 0, none⟩) hbf).trans hf
          cases hft : fit p.length j with
          | false =>
            gi_wp2_with (first
              | (refine ⟨trivial, fun h => (by cases h), ?_⟩; gi_at_call 145; refine (callsIn_wide.2 hh).mono ?_; rintro e w2 ⟨rfl, hb2⟩; have hf2 := (hb2.cell (p := ⟨bf, 0, none⟩) (by show bf < _; omega)).trans hfr)
              | (refine ⟨trivial, fun h => (by cases h), ?_⟩; gi_at_call 98; refine (callsIn_wide.2 (hfit p.length j w2 hl hlt (hBr.trans (hb2.mono (by omega))))).mono ?_; rw [hft]; rintro e w3 ⟨rfl, hb3⟩))
            have hb23 := hb2.trans (hb3.mono hb2.size)
            go_roundw
            case rel =>
              exact ⟨j + 1, by omega, by go_num, hBr.trans (hb23.mono (by omega)), hO'.kept (KeptFrom.of_below hb23), hsc.trans (scan_no hlt (by rw [hc, hft]; rfl))⟩
            case measure => simp [intOf]; omega
          | true =>
            obtain ⟨i0, hi, hz0, hz1, hz2⟩ := info_parts Tryz.info3
            have hpl : (p ++ [j]).length = p.length + 1 := by simp
            gi_wp2_with (first
              | (refine ⟨trivial, fun h => (by cases h), ?_⟩; gi_at_call 145; refine (callsIn_wide.2 hh).mono ?_; rintro e w2 ⟨rfl, hb2⟩; have hf2 := (hb2.cell (p := ⟨bf, 0, none⟩) (by show bf < _; omega)).trans hfr)
              | (refine ⟨trivial, fun h => (by cases h), ?_⟩; gi_at_call 98; refine (callsIn_wide.2 (hfit p.length j w2 hl hlt (hBr.trans (hb2.mono (by omega))))).mono ?_; rw [hft]; rintro e w3 ⟨rfl, hb3⟩; have hb23 := hb2.trans (hb3.mono hb2.size); have ho3 := (hb23.cell (p := ⟨bo, 0, none⟩) (by show bo < _; omega)).trans ho)
              | (gi_at_builtin; refine wpListIn_append_own _ rfl _ _ 34 rfl (be + 1) 3 i0 (.int .i64 0) 1 8 Tryz.underlying34 hi hz0 hz1 hz2 rfl (by decide) _ _ _ rfl ((ownsRow_below hrow hb23).alloc _) ⟨w3.heap.size, 0, none⟩ 1 1 [.int .i64 (j : Int)] rfl rfl (cell_one_new _ _ _) (by simp [Value.oneCell']) (by unfold maxLen; omega) (by omega) (by have := hb23.size; simp; omega) ?_; intro v4 w4 hown4 hgrow _
                 have hs3 := hb23.size
                 have hb4 : Below (be + 1) (w3.alloc (.cells #[.int .i64 (j : Int)] 3)) w4 := (Below.refl _ _).grown hgrow (by simp; omega) fun k hk => (hrow.lt k hk).1
                 have hb34 : Below (be + 1) wr w4 := ((hb23.mono (by omega)).alloc (by omega) _).trans hb4
                 have ho4 := (hb34.cell (p := ⟨bo, 0, none⟩) (by show bo < _; omega)).trans ho
                 have hfro4 := (hb34.frozen (p := ⟨bo, 0, none⟩) (by show bo < _; omega)).trans hfro
                 have hO5 := own4_store (q := p ++ [j]) (v := v4) ho4 hfro4 ((hb34.cell (p := ⟨by_, 0, none⟩) (by show by_ < _; omega)).trans hyie) ((hb34.cell (p := ⟨be, 0, none⟩) (by show be < _; omega)).trans hext) hlo hly (Nat.lt_of_lt_of_le hle hb34.size) hne (by rw [hpl]; unfold cellsN; rw [List.map_append]; exact hown4)
                 obtain ⟨g4, c4', rfl⟩ := ownsRow_succ hown4
                 have hext5 := hO5.ext
                 have hb5 : Below B W1 (w4.setCell ⟨bo, 0, none⟩ (.slice (some ⟨g4, 0, none⟩) (p.length + 1) c4')) := (hBr.trans (hb34.mono (by omega))).setCell hlo.1 _)
              | (refine ⟨trivial, fun h => (by cases h), ?_⟩; gi_at_call 144; refine (ih (n - 1) (p ++ [j]) _ (by rw [hpl]; omega) hb5 hO5).mono ?_; clear hO5 hext5 hb5
                 rintro e w6 (⟨rfl, hn6, hB6, hO6⟩ | ⟨rfl, q, hq6, hR6, hO6⟩) <;>
                 (obtain ⟨⟨v6, ho6, hrow6⟩, hfro6, hyie6, hext6, _, _, hle6, _⟩ := hO6
                  rw [hpl] at hrow6
                  unfold cellsN at hrow6
                  rw [List.map_append] at hrow6
                  obtain ⟨g6, c6, rfl⟩ := ownsRow_succ hrow6
                  have hroom := (ownsRow_room hrow6).1
                  have hrow7 := ownsRow_cut (xs := p.map fun (j : Nat) => Value.int .i64 (j : Int)) (by simp) hrow6
                  have hO7 := own4_store (q := p) ho6 hfro6 hyie6 hext6 hlo hly hle6 hne hrow7)))
            · go_roundw
              case rel => exact ⟨j + 1, by omega, by go_num, hB6.setCell hlo.1 _, hO7, hsc.trans (scan_no hlt (by rw [hc, hft]; exact hn6))⟩
              case measure => simp [intOf]; omega
            · go_ret
              exact .inr ⟨rfl, q, hsc.trans (scan_yes hlt (by rw [hc, hft]; exact hq6)), hR q _ _ hR6, hO7⟩
      · obtain rfl : many = j := by omega
        gi_wp2
        go_ret
        rw [Nat.sub_self] at hsc
        exact .inl ⟨rfl, hsc, hBr, hO'⟩
end Go.Proofs.YtdilcbocnndkmaaGreatDoor
