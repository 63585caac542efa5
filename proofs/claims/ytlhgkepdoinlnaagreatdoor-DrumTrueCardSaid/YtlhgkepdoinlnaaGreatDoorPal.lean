/- A part of the proof: see the last file. -/
import Derived.Test.YtlhgkepdoinlnaaGreatDoorPah
import Derived.Test.YtlhgkepdoinlnaaGreatDoorPak
import Derived.Test.YtlhgkepdoinlnaaGreatDoorPai
set_option linter.unusedVariables false
set_option linter.unusedSimpArgs false
set_option linter.unusedSectionVars false
namespace Go.Proofs.YtlhgkepdoinlnaaGreatDoor
open Go.RowKit Go.Gen Go.Drum
theorem Tryz.info3 : (Tryz.prog.info? 3).map (fun i => (i.zero, i.size, i.bytes)) = some (some (.int .i64 0), 1, 8) := by kernel_rfl
def intL (l : List Nat) : List Value := l.map fun (n : Nat) => Value.int .i64 (n : Int)
theorem intL_push (l : List Nat) (n : Nat) : intL (l ++ [n]) = intL l ++ [.int .i64 n] := by unfold intL; rw [List.map_append]; rfl
theorem cells_one (w : World) (a : Value) (e : TypeId) : ∀ (j : Nat) (u : Value), [a][j]? = some u → (w.alloc (Obj.cells #[a] e)).cell? ((⟨w.heap.size, 0, none⟩ : Addr).add j) = some u := by
  intro j u h
  match j, h with
  | 0, h => simp at h; subst h; simp [go_sem, Addr.add]
  | n+1, h => simp at h
/-- a row of numbers in memory. -/
theorem ksl_of_row {w : World} {B : Nat} {e : TypeId} {v : Value} {l : List Nat} (h : w.ownsRow B e 1 v l.length (intL l)) : KSl 1 w v l.length (fun i _ => ((l[i]?.getD 0 : Nat) : Int)) := by
  have h' := h
  obtain ⟨_, ⟨h1, h2⟩ | ⟨g, cap, cur, rfl, h2, h3, _⟩⟩ := h
  · exact .inl ⟨none, 0, h1, h2⟩
  · refine .inr ⟨g, 0, cap, rfl, (Array.getElem?_eq_some_iff.1 h3).1, fun i hi j hj => ?_⟩
    obtain rfl : j = 0 := by omega
    have hc := h'.cellAt i (by omega)
    rw [show 0 + i * 1 + 0 = i by omega, hc]
    unfold intL
    rw [List.getElem?_map]
    have hq := List.getElem?_eq_getElem hi
    rw [hq]
    show some (Value.int .i64 ((l[i] : Nat) : Int)) = some (Value.int .i64 ((l[i]?.getD 0 : Nat) : Int))
    rw [hq]
    rfl
/-- what Could returns. -/
def CoOk (l : List Nat) (w : World) (e : Ending) (w' : World) : Prop := ∃ v B, e = .returned (.tuple #[v, .int .i64 0]) ∧ w'.ownsRow B 3 1 v l.length (intL l) ∧ Below w.heap.size w w'
set_option maxRecDepth 100000 in
set_option maxHeartbeats 1000000 in
theorem could_err (d : Drm) (er : Int) (hne : er = 2 ∨ er = 7) (w : World) (hd : DIn w d) (he : ∀ W, Below w.heap.size w W → Calls Tryz.prog 64 #[d.val, .bool true] W (ExRule W er)) :
    Calls Tryz.prog 19 #[d.val] w (ExRule w er) := by
  obtain ⟨W0, hW⟩ : ∃ W0, w.alloc (.cells #[.slice d.aa d.an d.ac, .int .i64 d.known, .int .i64 d.hours, .slice d.da d.dn d.dc, .slice d.sa d.sn d.sc, .slice d.ba d.bn d.bc] 27) = W0 := ⟨_, rfl⟩
  have hX : PoD w d W0 := by rw [← hW]; exact PoD.new w d
  obtain ⟨q0, q1, q2, q3, q4, q5⟩ := id hX.at'
  have hex := he W0 hX.old
  rcases hne with rfl | rfl
  all_goals
    go_enter Tryz.func19, Tryz.ntmps19
    go_wp2_with (go_at_call 64; (with_reducible refine hex.mono ?_); rintro e w1 ⟨rfl, hb⟩; replace hX := hX.below hb)
    go_ret2
    exact ⟨rfl, hX.old⟩
set_option maxRecDepth 100000 in
set_option maxHeartbeats 4000000 in
theorem could_ok (d : Drm) (l : List Nat) (hl : CouldTo d d.an l) (w : World) (hd : DIn w d) (he : ∀ W, Below w.heap.size w W → Calls Tryz.prog 64 #[d.val, .bool true] W (ExOk d W)) (h4 : d.an ≤ 4) :
    Calls Tryz.prog 19 #[d.val] w (CoOk l w) := by
  obtain ⟨i0, hinf, hz0, hz1, hz2⟩ := info_parts Tryz.info3
  obtain ⟨W0, hW⟩ : ∃ W0, w.alloc (.cells #[.slice d.aa d.an d.ac, .int .i64 d.known, .int .i64 d.hours, .slice d.da d.dn d.dc, .slice d.sa d.sn d.sc, .slice d.ba d.bn d.bc] 27) = W0 := ⟨_, rfl⟩
  have hX : PoD w d W0 := by rw [← hW]; exact PoD.new w d
  obtain ⟨q0, q1, q2, q3, q4, q5⟩ := id hX.at'
  have hex := he W0 hX.old
  go_enter Tryz.func19, Tryz.ntmps19
  go_wp2_with (go_at_call 64; (with_reducible refine hex.mono ?_); rintro e w1 ⟨xs, g, cap, rfl, hx1, hx2, hC, hb⟩)
  have hxl := CouldTo.same hC.could hl
  have hlen : Hdn (xs.length = l.length) := ⟨by rw [← hxl, List.length_map]⟩
  have hlen4 : xs.length ≤ 4 := by have := CouldTo.length_le hl; have := hlen.out; omega
  have hB0 := hX.old.trans (hb.mono hX.old.size)
  clear q0 q1 q2 q3 q4 q5 hX hex hb
  go_loopw [6, 19] (fun u i' wr => ∃ k : Nat, k ≤ xs.length ∧ i' = .int .i64 k ∧ Below w1.heap.size w1 wr ∧ wr.ownsRow w1.heap.size 3 1 u k (intL (l.take k))) (fun _ i' _ => xs.length - (intOf i').toNat)
  case atStart => exact ⟨0, Nat.zero_le _, rfl, Below.refl _ _, World.ownsRow_nil _ _ _ _⟩
  case round =>
    obtain ⟨k, hk5, rfl, hbl, hown⟩ := hrel
    have hk6 : (0 : Int) ≤ (k : Int) := Int.natCast_nonneg _
    by_cases hlt : k < xs.length
    · have hk7 : (k : Int) < (xs.length : Int) := by omega
      have hk77 : (k : Int) < 4 := by omega
      have hCw := hC.below hbl
      obtain ⟨x, hx⟩ : ∃ x, xs[k]? = some x := ⟨_, List.getElem?_eq_getElem hlt⟩
      obtain ⟨e0, e1, e2, e3, e4, e5, e6, e7⟩ := hCw.cells k x hx
      have htk : Hdn (intL (l.take (k + 1)) = intL (l.take k) ++ [.int .i64 x.acid]) := ⟨by
        rw [← intL_push, ← hxl, List.take_add_one, List.getElem?_map, hx]; rfl⟩
      obtain ⟨W2, hW2⟩ : ∃ W, wr.alloc (.cells #[.slice d.aa d.an d.ac, .int .i64 d.known, .int .i64 d.hours, .slice d.da d.dn d.dc, .slice d.sa d.sn d.sc, .slice d.ba d.bn d.bc, .int .i64 x.acid, .slice (some ⟨x.r, 0, none⟩) d.dn x.cap] 97) = W := ⟨_, rfl⟩
      have p6 : W2.cell? ⟨wr.heap.size, 6, none⟩ = some (.int .i64 x.acid) := by rw [← hW2]; exact cells_new wr _ _ rfl
      have hb2 : Below wr.heap.size wr W2 := by rw [← hW2]; exact (Below.refl _ _).alloc (Nat.le_refl _) _
      have hown2 := row_below hown hb2
      have hz2' := hb2.size
      have hz1' := hbl.size
      clear hx hCw hown
      go_wp2_with (at_builtin; refine wpList_append_own _ rfl _ _ 23 rfl w1.heap.size 3 i0 (.int .i64 0) 1 8 Tryz.underlying23 hinf hz0 hz1 hz2 rfl (by decide) _ _ _ rfl (hown2.alloc _) ⟨W2.heap.size, 0, none⟩ 1 1 [.int .i64 x.acid] rfl rfl ?c1 ?c2 ?c3 ?c4 ?c5 ?_)
      case c1 => exact cells_one _ _ _
      case c2 => exact fun u' hu => by rcases List.mem_cons.1 hu with rfl | hu; · rfl
                                       · cases hu
      case c3 => unfold maxLen; omega
      case c4 => omega
      case c5 => rw [World.size_alloc]; omega
      intro v3 w3 hown3 hgrow _
      have hb3 : Below w1.heap.size w1 w3 := hbl.trans ((((hb2.mono hz1').alloc (by omega) _).grown hgrow (by rw [World.size_alloc]; omega) (fun k hk => (hown2.lt k hk).1)))
      rw [← htk.out] at hown3
      clear hgrow e0 e1 e2 e3 e4 e5 e6 e7 p6 hb2 hown2
      go_wp2
      go_roundw
      case rel => exact ⟨k + 1, by omega, by go_num, hb3, hown3⟩
      case measure => simp [intOf]; omega
    · have hkl : k = l.length := by have := hlen.out; omega
      have hk8 : ¬ (k : Int) < (xs.length : Int) := by omega
      rw [hkl, List.take_length] at hown
      clear hkl
      have hbf := hB0.trans (hbl.mono hB0.size)
      go_wp2
      exact bodyPost_ret (v := .tuple #[_, .int .i64 0]) (by simp [results, Tryz.results19, go_sem]) rfl ⟨_, _, rfl, hown, hbf⟩
end Go.Proofs.YtlhgkepdoinlnaaGreatDoor
namespace Go.Proofs.YtlhgkepdoinlnaaGreatDoor
open Go.RowKit Go.Gen Go.Drum
theorem PoD.beyond {w W W' : World} {d : Drm} (h : PoD w d W) (hb : Below (w.heap.size + 1) W W') : PoD w d W' :=
 ⟨h.at'.below hb (Nat.lt_succ_self _), h.old.trans (hb.mono (Nat.le_succ _)), Nat.lt_of_lt_of_le h.lt hb.size⟩
/-- numbers in memory. -/
def natsF (l : List Nat) : Nat → Nat → Int := fun i _ => ((l[i]?.getD 0 : Nat) : Int)
theorem ksl_slice {k : Nat} {w : World} {v : Value} {n : Nat} {F : Nat → Nat → Int} (h : KSl k w v n F) : ∃ a c, v = .slice a n c := by
 rcases h with ⟨a, c, rfl, rfl⟩ | ⟨b, off, cap, rfl, _⟩
 ·exact ⟨a, c, rfl⟩
 ·exact ⟨_, _, rfl⟩
end Go.Proofs.YtlhgkepdoinlnaaGreatDoor
namespace Go.Proofs.YtlhgkepdoinlnaaGreatDoor
open Go.RowKit Go.Gen Go.Drum
end Go.Proofs.YtlhgkepdoinlnaaGreatDoor
