/- A part of the proof: see the last file. -/
import Derived.Test.YtlhgkepdoinlnaaGreatDoorPac
import Derived.Test.YtlhgkepdoinlnaaGreatDoorPad
set_option linter.unusedVariables false
set_option linter.unusedSimpArgs false
set_option linter.unusedSectionVars false
namespace Go
variable {P : Program} {md : Region.Mode} {ops : Array Oper} {Q : Exit → Act → World → Prop} {L : List Nat} {S0 S : World → Prop}
/-- a take by what holds till a late one comes up. -/
theorem tkT (i : Nat) {oi : Oper} {v : Value} {fuel : Nat} {listed : Array Bool} {a a' : Act} {w : World} (d : Nat) (hi : ops[i]? = some oi) (hw : (L.all fun j => waitsB md ops i d j) = true)
  (hy : ∀ w, S0 w ∧ S w → (execOp a.eval oi).run P w = .ok (.value v) w) (hI : S0 w ∧ S w) (h : wpAnyP P md ops Q L S0 S fuel (listed.setIfInBounds i true) a' w)
  (hwa : Region.wanted oi (yielded ops a.tmps) = true := by kernel_rfl)
  (ha : a.put oi.dst v = a' := by (try simp only [Act.put, xpA, xpZ, xpS]) <;> rfl)
  (hs : Region.noSelect ops = true := by kernel_rfl) (hf : Region.free md ops listed i = true := by kernel_rfl) (hr : (Region.ready md ops listed).contains i = true := by kernel_rfl)
  (hc : closedPB md ops listed = true := by kernel_rfl) (hiL : L.contains i = false := by rfl)
  (hQ : ∀ c a w, Q (.panic c) (a.put oi.dst v) w → Q (.panic c) a w := by exact fun _ _ _ h => h) : wpAnyP P md ops Q L S0 S (fuel + 1) listed a w :=
 wpAnyP_take d hi hs hf hr hc hiL hw hQ (Or.inl ⟨hwa, hy⟩) hI (ha ▸ h)
/-- a late one that alone is ready. -/
theorem rdL (i : Nat) {o : Oper} {fuel : Nat} {listed : Array Bool} {a : Act} {w : World} (ho : ops[i]? = some o)
  (h : ∀ K' : Act → World → Prop, Shut (∀ a w, S0 w → (S0 w → wpAnyP P md ops Q L S0 S fuel (listed.setIfInBounds i true) a w) → K' a w) → if Region.wanted o (yielded ops a.tmps) = true then Oper.wp P o a w K' Q else K' (a.put o.dst undef) w)
  (hl : aliveB L (listed.setIfInBounds i true) = false := by kernel_rfl)
  (hr : Region.ready md ops listed = [i] := by kernel_rfl) : wpAnyP P md ops Q L S0 S (fuel + 1) listed a w :=
 wpAnyP_ready hr (List.cons_ne_nil _ _) (AllReadyP.behind ho hl h AllReadyP.nil)
end Go
namespace Go.Proofs.YtlhgkepdoinlnaaGreatDoor
open Go.RowKit Go.Gen
@[reducible] def Drm.fil (d : Drm) (acid : Int) (v : Value) : Value := .agg #[.slice d.aa d.an d.ac, .int .i64 d.known, .int .i64 d.hours, .slice d.da d.dn d.dc, .slice d.sa d.sn d.sc, .slice d.ba d.bn d.bc, .int .i64 acid, v]
/-- an acid's block behind others. -/
structure PoF (w : World) (d : Drm) (acid : Int) (v : Value) (W : World) : Prop where
 at' : DAt W w.heap.size d
 k6 : W.cell? ⟨w.heap.size, 6, none⟩ = some (.int .i64 acid)
 k7 : W.cell? ⟨w.heap.size, 7, none⟩ = some v
 old : Below w.heap.size w W
 lt : w.heap.size < W.heap.size
theorem PoF.new (w : World) (d : Drm) (acid : Int) (v : Value) : PoF w d acid v (w.alloc (.cells #[.slice d.aa d.an d.ac, .int .i64 d.known, .int .i64 d.hours, .slice d.da d.dn d.dc, .slice d.sa d.sn d.sc, .slice d.ba d.bn d.bc, .int .i64 acid, v] 97)) :=
 ⟨⟨cells_new w _ _ rfl, cells_new w _ _ rfl, cells_new w _ _ rfl, cells_new w _ _ rfl, cells_new w _ _ rfl, cells_new w _ _ rfl⟩, cells_new w _ _ rfl, cells_new w _ _ rfl, (Below.refl _ _).alloc (Nat.le_refl _) _, by rw [World.size_alloc]; omega⟩
theorem PoF.below {w W W' : World} {d : Drm} {acid : Int} {v : Value} (h : PoF w d acid v W) (hb : Below W.heap.size W W') : PoF w d acid v W' :=
 ⟨h.at'.below hb h.lt, (hb.cell (p := ⟨w.heap.size, 6, none⟩) h.lt).trans h.k6, (hb.cell (p := ⟨w.heap.size, 7, none⟩) h.lt).trans h.k7, h.old.trans (hb.mono h.old.size), Nat.lt_of_lt_of_le h.lt hb.size⟩
/-- blocks behind the acid's may have been written. -/
theorem PoF.beyond {w W W' : World} {d : Drm} {acid : Int} {v : Value} (h : PoF w d acid v W) (hb : Below (w.heap.size + 1) W W') : PoF w d acid v W' :=
 ⟨h.at'.below hb (Nat.lt_succ_self _), (hb.cell (p := ⟨w.heap.size, 6, none⟩) (Nat.lt_succ_self _)).trans h.k6, (hb.cell (p := ⟨w.heap.size, 7, none⟩) (Nat.lt_succ_self _)).trans h.k7, h.old.trans (hb.mono (Nat.le_succ _)), Nat.lt_of_lt_of_le h.lt hb.size⟩
theorem PoF.alloc {w W : World} {d : Drm} {acid : Int} {v : Value} (h : PoF w d acid v W) (o : Obj) : PoF w d acid v (W.alloc o) := h.below ((Below.refl _ _).alloc (Nat.le_refl _) o)
theorem PoF.drew {w W : World} {d : Drm} {acid : Int} {v : Value} (h : PoF w d acid v W) : PoF w d acid v W.drew := h.below (Below.refl _ _).drew
theorem PoF.set {w W : World} {d : Drm} {acid : Int} {v : Value} (h : PoF w d acid v W) {b o : Nat} (hb : w.heap.size < b) (u : Value) : PoF w d acid v (W.setCell ⟨b, o, none⟩ u) :=
 h.beyond ((Below.refl _ _).setCell (p := ⟨b, o, none⟩) hb u)
/-- whether a set has a number. -/
def bitB (known : Int) (i : Nat) : Bool := decide (known / 2 ^ i % 2 = 1)
theorem bit_all : ∀ k : Nat, k < 16 → ∀ i : Nat, i < 4 → (bits BinOp.and IntKind.i64 ((k : Int) / 2 ^ i) 1 == 1) = bitB (k : Int) i := by decide +kernel
set_option maxRecDepth 100000 in
set_option maxHeartbeats 1000000 in
theorem isKnown_any (d : Drm) (i : Nat) (v : Value) (w : World) (h1 : 1 ≤ d.known ∧ d.known < 16) (hi : i < 4) :
  Calls Tryz.prog 62 #[d.fil i v] w fun e w' => e = .returned (.bool (bitB d.known i)) ∧ Below w.heap.size w w' := by
 obtain ⟨W0, hW⟩ : ∃ W0, w.alloc (.cells #[.slice d.aa d.an d.ac, .int .i64 d.known, .int .i64 d.hours, .slice d.da d.dn d.dc, .slice d.sa d.sn d.sc, .slice d.ba d.bn d.bc, .int .i64 i, v] 97) = W0 := ⟨_, rfl⟩
 have hX : PoF w d i v W0 := by rw [← hW]; exact PoF.new w d i v
 obtain ⟨⟨q0, q1, q2, q3, q4, q5⟩, q6, q7, _, _⟩ := id hX
 obtain ⟨h1a, h1b⟩ := h1
 go_enter Tryz.func62, Tryz.ntmps62
 go_wp2
 go_ret
 obtain ⟨k, hk⟩ : ∃ k : Nat, d.known = k := ⟨d.known.toNat, by omega⟩
 have hb := bit_all k (by omega) i hi
 rw [← hk] at hb
 exact ⟨ret_bool hb, hX.old⟩
end Go.Proofs.YtlhgkepdoinlnaaGreatDoor
