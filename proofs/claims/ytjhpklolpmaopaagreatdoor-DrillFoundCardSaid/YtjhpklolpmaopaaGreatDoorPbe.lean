/- A part of the proof: see the last file. -/
import Derived.Test.YtjhpklolpmaopaaGreatDoorPbd
import Derived.StillTailTactics
import Derived.Test.YtjhpklolpmaopaaGreatDoorPaa
set_option linter.unusedVariables false
set_option linter.unusedSimpArgs false
set_option linter.unusedSectionVars false
namespace Go.Proofs.YtjhpklolpmaopaaGreatDoor
open Go.RowKit
def zM : Mach := ⟨none, 0, 0, fun _ => 0, fun _ => 0, 0, 0, 0, 0, 0, 0, 0, 0, none, 0, 0, fun _ => 0, fun _ => 0, fun _ => 0, fun _ => 0⟩
/-- the cells of a studied machine of which nothing is known. -/
def zst : List Value := zM.st zero26 zero26
/-- the cells of a value that nothing was studied of. -/
theorem zst_lit : (#[.slice none 0 0, .int .i64 0, .int .i64 0, .int .i64 0, .int .i64 0, .int .i64 0, .int .i64 0, .int .i64 0, .int .i64 0, .slice none 0 0, .int .i64 0, .int .i64 0, .int .i64 0, .int .i64 0, .int .i64 0, .int .i64 0, .int .i64 0, .int .i64 0, .int .i64 0, .int .i64 0, .int .i64 0, .int .i64 0, .int .i64 0, .int .i64 0, .int .i64 0, .int .i64 0, .int .i64 0, .int .i64 0, .int .i64 0, .int .i64 0, .int .i64 0, .int .i64 0, .int .i64 0, .int .i64 0, .int .i64 0, .int .i64 0, .int .i64 0, .int .i64 0, .int .i64 0, .int .i64 0, .int .i64 0, .int .i64 0, .int .i64 0, .int .i64 0, .int .i64 0, .int .i64 0, .int .i64 0, .int .i64 0, .int .i64 0, .int .i64 0, .int .i64 0, .int .i64 0, .int .i64 0, .int .i64 0, .int .i64 0, .int .i64 0, .int .i64 0, .int .i64 0, .int .i64 0, .int .i64 0, .int .i64 0, .int .i64 0] : Array Value) = zst.toArray := rfl
theorem frozen_of_block {W W' : World} {b : Nat} (h : W'.heap[b]? = W.heap[b]?) (i : Nat) : W'.frozen? ⟨b, i, none⟩ = W.frozen? ⟨b, i, none⟩ := by unfold World.frozen?; rw [h]
/-- what stands after the closure was run, in whatever way. -/
structure Left (w0 W1 w' : World) : Prop where
 old : Below w0.heap.size w0 w'
 lt : W1.heap.size < w'.heap.size
 kept : ∀ b, b < W1.heap.size → w'.heap[b]? = W1.heap[b]?
theorem attempt_can (m : Mach) (w0 W1 W2 : World) (hok : m.ok = true) (h : MIn w0 m) (hB : Below w0.heap.size w0 W1) (hB2 : Below w0.heap.size w0 W2) (hS : SAt W2 W1.heap.size (m.st zero26 zero26)) (hz2 : W2.heap.size = W1.heap.size + 1) (hk2 : ∀ b, b < W1.heap.size → W2.heap[b]? = W1.heap[b]?) (hX : m.axX.can) (hY : m.axY.can) :
  Calls Tryz.prog 55 #[.func (.func 89) #[] #[.pointer (some ⟨W1.heap.size, 0, none⟩)]] W2 fun e w' => e = .returned (.int .i64 0) ∧ (SAt w' W1.heap.size (m.st (crsL m.axX.ends 13) (crsL m.axY.ends 13)) ∧ Left w0 W1 w') := by
 refine attempt_ok W1.heap.size W2 (fun w' => SAt w' W1.heap.size (m.st (crsL m.axX.ends 13) (crsL m.axY.ends 13)) ∧ Left w0 W1 w') ?_
 have hb3 : Below W2.heap.size W2 (W2.alloc (Obj.cells #[.int .i64 0] 37)) := (Below.refl _ _).alloc (Nat.le_refl _) _
 have c3 : (W2.alloc (Obj.cells #[.int .i64 0] 37)).cell? ⟨W2.heap.size, 0, none⟩ = some (.int .i64 0) := cells_new W2 _ _ rfl
 have f3 : (W2.alloc (Obj.cells #[.int .i64 0] 37)).frozen? ⟨W2.heap.size, 0, none⟩ = false := by simp [go_sem]
 have hz3 : (W2.alloc (Obj.cells #[.int .i64 0] 37)).heap.size = W2.heap.size + 1 := World.size_alloc _ _
 generalize W2.alloc (Obj.cells #[.int .i64 0] 37) = W3 at *
 have hB3 : Below w0.heap.size w0 W3 := hB2.trans (hb3.mono hB2.size)
 refine (examine1_can m W1.heap.size w0 W3 hok h hB3 hB.size (by omega) (hS.below hb3 (by omega)) hX hY).mono ?_
 rintro e w' ⟨rfl, hS', hB', hz', hk'⟩
 have hblk := hk' W2.heap.size (by omega) (by omega)
 refine ⟨rfl, (World.cell?_of_block hblk).trans c3, (frozen_of_block hblk 0).trans f3, hS'.far (Below.heap_setCell w' ⟨W2.heap.size, 0, none⟩ _ W1.heap.size (by show W1.heap.size ≠ W2.heap.size; omega)), hB'.setCell (p := ⟨W2.heap.size, 0, none⟩) (by have := hB2.size; exact this) _, by rw [World.size_setCell]; omega, fun b hb => ?_⟩
 rw [Below.heap_setCell w' ⟨W2.heap.size, 0, none⟩ _ b (by show b ≠ W2.heap.size; omega), hk' b (by omega) (by omega), hb3.block b (by omega), hk2 b hb]
theorem attempt_rule (m : Mach) (w0 W1 W2 : World) (hok : m.ok = true) (h : MIn w0 m) (hB : Below w0.heap.size w0 W1) (hB2 : Below w0.heap.size w0 W2) (hS : SAt W2 W1.heap.size (m.st zero26 zero26)) (hz2 : W2.heap.size = W1.heap.size + 1) (hk2 : ∀ b, b < W1.heap.size → W2.heap[b]? = W1.heap[b]?) (hno : ¬ (m.axX.can ∧ m.axY.can)) :
  Calls Tryz.prog 55 #[.func (.func 89) #[] #[.pointer (some ⟨W1.heap.size, 0, none⟩)]] W2 fun e w' => e = .returned (.int .i64 7) ∧ Left w0 W1 w' := by
 refine attempt_no W1.heap.size W2 (fun w' => Left w0 W1 w') ?_
 have hb3 : Below W2.heap.size W2 (W2.alloc (Obj.cells #[.int .i64 0] 37)) := (Below.refl _ _).alloc (Nat.le_refl _) _
 have c3 : (W2.alloc (Obj.cells #[.int .i64 0] 37)).cell? ⟨W2.heap.size, 0, none⟩ = some (.int .i64 0) := cells_new W2 _ _ rfl
 have f3 : (W2.alloc (Obj.cells #[.int .i64 0] 37)).frozen? ⟨W2.heap.size, 0, none⟩ = false := by simp [go_sem]
 have hz3 : (W2.alloc (Obj.cells #[.int .i64 0] 37)).heap.size = W2.heap.size + 1 := World.size_alloc _ _
 generalize W2.alloc (Obj.cells #[.int .i64 0] 37) = W3 at *
 have hB3 : Below w0.heap.size w0 W3 := hB2.trans (hb3.mono hB2.size)
 have key : Calls Tryz.prog 89 #[.pointer (some ⟨W1.heap.size, 0, none⟩)] W3 fun e w' => e = .panicked [{ v := .iface 225 (.agg #[]), recovered := false }] ∧ Below w0.heap.size w0 w' ∧ W3.heap.size ≤ w'.heap.size ∧ (∀ b, b < W3.heap.size → b ≠ W1.heap.size → w'.heap[b]? = W3.heap[b]?) := by
  by_cases hX : m.axX.can
  ·exact examine1_noY m W1.heap.size w0 W3 hok h hB3 hB.size (by omega) (hS.below hb3 (by omega)) hX fun hY => hno ⟨hX, hY⟩
  ·exact examine1_noX m W1.heap.size w0 W3 hok h hB3 hB.size (by omega) (hS.below hb3 (by omega)) hX
 refine key.mono ?_
 rintro e w' ⟨rfl, hB', hz', hk'⟩
 have hblk := hk' W2.heap.size (by omega) (by omega)
 have hBs : Below w0.heap.size w0 (w'.setCell ⟨W2.heap.size, 0, none⟩ (.int .i64 7)) := hB'.setCell (p := ⟨W2.heap.size, 0, none⟩) (by have := hB2.size; exact this) _
 refine ⟨rfl, by omega, (World.cell?_of_block hblk).trans c3, (frozen_of_block hblk 0).trans f3, hBs.alloc hBs.size _, by rw [World.size_alloc, World.size_setCell]; omega, fun b hb => ?_⟩
 rw [((Below.refl (w'.setCell ⟨W2.heap.size, 0, none⟩ (.int .i64 7)).heap.size _).alloc (Nat.le_refl _) _).block b (by rw [World.size_setCell]; omega), Below.heap_setCell w' ⟨W2.heap.size, 0, none⟩ _ b (by show b ≠ W2.heap.size; omega), hk' b (by omega) (by omega), hb3.block b (by omega), hk2 b hb]
end Go.Proofs.YtjhpklolpmaopaaGreatDoor
namespace Go.Proofs.YtjhpklolpmaopaaGreatDoor
open Go.RowKit
/-- many cells written into a row of as many: the row is they. -/
theorem SAt.fill {W : World} {g : Nat} {L L' : List Value} (h : SAt W g L) (hl : L'.length = L.length) : SAt (W.setCells g 0 L') g L' := by
 have h' : SAt W g ([] ++ (L ++ [])) := by simpa using h
 have := SAt.put (B' := L') h' hl
 simpa using this
set_option maxRecDepth 100000 in
set_option maxHeartbeats 4000000 in
theorem examine_ok (m : Mach) (w : World) (hs : m.sn ≤ 1000) (hr : m.rn ≤ 9223372036854775807) (h : MIn w m) (hok : m.ok = true) (hX : m.axX.can) (hY : m.axY.can) :
  Calls Tryz.prog 46 #[m.val, .bool true] w fun e w' => e = .returned (.tuple #[.agg (m.st (crsL m.axX.ends 13) (crsL m.axY.ends 13)).toArray, .int .i64 0]) ∧ Below w.heap.size w w' := by
 have hmf : ∀ (fn : Fn) (first cap : Array Value) (w : World), (Instr.makeFunc fn first cap).run Tryz.prog w = .ok (.func fn first cap) w := fun _ _ _ _ => rfl
 have hb1 : ∀ w, (Instr.build 93 #[(0, .agg #[.slice m.sa m.sn m.sc, .int .i64 m.c0, .int .i64 m.c1, .int .i64 m.d0, .int .i64 m.d1, .int .i64 m.w0, .int .i64 m.w1, .int .i64 m.v0, .int .i64 m.v1, .slice m.ra m.rn m.rc])]).run Tryz.prog w = .ok (.agg (m.st zero26 zero26).toArray) w := fun w => by kernel_rfl
 have hb2 : ∀ w, (Instr.build 93 #[]).run Tryz.prog w = .ok (.agg zst.toArray) w := fun w => by kernel_rfl
 have hal := zst_lit
 have hset : (((((((((zst.set 0 (.slice m.sa m.sn m.sc)).set 1 (.int .i64 m.c0)).set 2 (.int .i64 m.c1)).set 3 (.int .i64 m.d0)).set 4 (.int .i64 m.d1)).set 5 (.int .i64 m.w0)).set 6 (.int .i64 m.w1)).set 7 (.int .i64 m.v0)).set 8 (.int .i64 m.v1)).set 9 (.slice m.ra m.rn m.rc) = m.st zero26 zero26 := rfl
 have hZ0 := fun (W : World) => SAt.new W zst 93
 have hcan := fun (W1 W2 : World) hB hB2 hS hz2 hk2 => attempt_can m w W1 W2 hok h hB hB2 hS hz2 hk2 hX hY
 have hl0 := m.st_length (X := zero26) (Y := zero26) rfl rfl
 have hlz : zst.length = 62 := zM.st_length rfl rfl
 have hoz := all_oneCell_toArray (zM.st_one zero26_one zero26_one)
 have ho0 := all_oneCell_toArray (m.st_one zero26_one zero26_one)
 have hi0 : (Tryz.prog.info? 93).map (·.size) = some 62 := by kernel_rfl
 have hia : (Tryz.prog.info? 93).map (·.size) = some (m.st zero26 zero26).toArray.size := by rw [List.size_toArray, hl0]; exact hi0
 have hiz : (Tryz.prog.info? 93).map (·.size) = some zst.toArray.size := by rw [List.size_toArray, hlz]; exact hi0
 have htz := fun (W : World) (g : Nat) (H : SAt W g zst) => H.there 0 (m.st zero26 zero26).toArray.size (by rw [List.size_toArray, hl0, hlz]; omega)
 have hfz := fun (W : World) (g : Nat) (H : SAt W g zst) => SAt.fill (L' := m.st zero26 zero26) H (by rw [hl0, hlz])
 change Array.all zst.toArray _ = true at hoz
 generalize m.st zero26 zero26 = L0 at *
 obtain ⟨W0, hW⟩ : ∃ W0, w.alloc (.cells #[.slice m.sa m.sn m.sc, .int .i64 m.c0, .int .i64 m.c1, .int .i64 m.d0, .int .i64 m.d1, .int .i64 m.w0, .int .i64 m.w1, .int .i64 m.v0, .int .i64 m.v1, .slice m.ra m.rn m.rc] 27) = W0 := ⟨_, rfl⟩
 have hb0 : Below w.heap.size w W0 := by rw [← hW]; exact (Below.refl _ _).alloc (Nat.le_refl _) _
 have hsz : W0.heap.size = w.heap.size + 1 := by rw [← hW, World.size_alloc]
 have hMA : MAt W0 w.heap.size m := by rw [← hW]; exact MAt.new w m
 have hR0 := hZ0 W0
 rw [hsz] at hR0
 have hism := fun (W : World) (hB : Below w.heap.size w W) => isMachine_any m W hs hr (h.below hB)
 rw [hok] at hism
 obtain ⟨q0, q1, q2, q3, q4, q5, q6, q7, q8, q9⟩ := (show MAt W0 w.heap.size m from hMA)
 clear hi0 hb1 hb2
 generalize zst = Z at *
 go_enter Tryz.func46, Tryz.ntmps46
 go_wp2_with (first
  | (go_at_call 43; with_reducible refine (hism _ (hb0.alloc hb0.size _)).mono ?_; rintro e w1 ⟨rfl, hb1'⟩; have hs1 := hb1'.size; rw [World.size_alloc] at hs1; have hB1 := (hb0.alloc hb0.size _).trans (hb1'.mono (by rw [World.size_alloc]; omega)); have hMB1 := (hMA.below ((Below.refl W0.heap.size W0).alloc (Nat.le_refl _) _) (by omega)).below hb1' (by rw [World.size_alloc]; omega); obtain ⟨r0, r1, r2, r3, r4, r5, r6, r7, r8, r9⟩ := hMB1; have hR1 := hR0.below hb1' (by rw [World.size_alloc]; omega); clear hb1')
  | (with_reducible refine wpList_store_mid rfl 93 _ _ rfl w1.heap.size 0 L0.toArray rfl rfl (htz _ _ (hZ0 w1)) hia ho0 ?_))
 have hS2 := hfz _ _ (hZ0 w1)
 have hB2 := below_setCells hB1.size L0 0 _ (hB1.alloc hB1.size (Obj.cells Z.toArray 93))
 have hz2 : ((w1.alloc (Obj.cells Z.toArray 93)).setCells w1.heap.size 0 L0).heap.size = w1.heap.size + 1 := by rw [size_setCells, World.size_alloc]
 have hk2 : ∀ b, b < w1.heap.size → ((w1.alloc (Obj.cells Z.toArray 93)).setCells w1.heap.size 0 L0).heap[b]? = w1.heap[b]? := fun b hb => by
  rw [World.heap_setCells_other _ w1.heap.size 0 L0 (by rw [World.size_alloc]; omega) (by omega)]
  exact ((Below.refl w1.heap.size w1).alloc (Nat.le_refl _) _).block b hb
 refine (hcan w1 _ hB1 hB2 hS2 hz2 hk2).mono ?_
 rintro e w2 ⟨rfl, hS3, hL3⟩
 have hll : (m.st (crsL m.axX.ends 13) (crsL m.axY.ends 13)).length = 62 := m.st_length (crsL_length _ 13) (crsL_length _ 13)
 have hlo := all_oneCell_toArray (m.st_one (crsL_one m.axX.ends 13) (crsL_one m.axY.ends 13))
 clear hcan
 generalize hLL : m.st (crsL m.axX.ends 13) (crsL m.axY.ends 13) = L at *
 have hi0 : (Tryz.prog.info? 93).map (·.size) = some 62 := by kernel_rfl
 have hiL : (Tryz.prog.info? 93).map (·.size) = some L.length := by rw [hll]; exact hi0
 have hiA : (Tryz.prog.info? 93).map (·.size) = some L.toArray.size := by rw [List.size_toArray]; exact hiL
 have hrg := hS3.c
 have hR2 : SAt w2 (w.heap.size + 1) Z := hR1.far (hL3.kept _ (by omega))
 have hth := hR2.there 0 L.toArray.size (by rw [List.size_toArray, hll, hlz]; omega)
 have hR3 := SAt.fill (L' := L) hR2 (by rw [hll, hlz])
 have hB3 := below_setCells (b := w.heap.size + 1) (Nat.le_succ _) L 0 w2 hL3.old
 have hlast := run_loadVar_mid (P := Tryz.prog) _ (w.heap.size + 1) 0 93 L _ hR3.c Tryz.underlying93 rfl hiL
 clear hi0 hll hlz hl0 hia hiz hfz htz hZ0 hal hset hk2 hz2 hB2 hS2 hW hMA hism hR0 r0 r1 r2 r3 r4 r5 r6 r7 r8 r9 q0 q1 q2 q3 q4 q5 q6 q7 q8 q9
 go_wp2_with (first
  | (with_reducible refine wpList_load_mid rfl 93 _ rfl w1.heap.size 0 rfl L _ hrg Tryz.underlying93 rfl hiL ?_)
  | (with_reducible refine wpList_store_mid rfl 93 _ _ rfl (w.heap.size + 1) 0 L.toArray rfl rfl hth hiA hlo ?_))
 refine bodyPost_ret (v := .tuple #[.agg L.toArray, .int .i64 0]) (by simp [results, Tryz.results46, asAddr, hlast]) rfl ⟨by rw [hLL], hB3⟩
end Go.Proofs.YtjhpklolpmaopaaGreatDoor
namespace Go.Proofs.YtjhpklolpmaopaaGreatDoor
open Go.RowKit
set_option maxRecDepth 100000 in
set_option maxHeartbeats 4000000 in
theorem examine_rule (m : Mach) (w : World) (hs : m.sn ≤ 1000) (hr : m.rn ≤ 9223372036854775807) (h : MIn w m) (hok : m.ok = true) (hno : ¬ (m.axX.can ∧ m.axY.can)) :
  Calls Tryz.prog 46 #[m.val, .bool true] w fun e w' => e = .returned (.tuple #[.agg zst.toArray, .int .i64 7]) ∧ Below w.heap.size w w' := by
 have hmf : ∀ (fn : Fn) (first cap : Array Value) (w : World), (Instr.makeFunc fn first cap).run Tryz.prog w = .ok (.func fn first cap) w := fun _ _ _ _ => rfl
 have hb1 : ∀ w, (Instr.build 93 #[(0, .agg #[.slice m.sa m.sn m.sc, .int .i64 m.c0, .int .i64 m.c1, .int .i64 m.d0, .int .i64 m.d1, .int .i64 m.w0, .int .i64 m.w1, .int .i64 m.v0, .int .i64 m.v1, .slice m.ra m.rn m.rc])]).run Tryz.prog w = .ok (.agg (m.st zero26 zero26).toArray) w := fun w => by kernel_rfl
 have hb2 : ∀ w, (Instr.build 93 #[]).run Tryz.prog w = .ok (.agg zst.toArray) w := fun w => by kernel_rfl
 have hal := zst_lit
 have hset : (((((((((zst.set 0 (.slice m.sa m.sn m.sc)).set 1 (.int .i64 m.c0)).set 2 (.int .i64 m.c1)).set 3 (.int .i64 m.d0)).set 4 (.int .i64 m.d1)).set 5 (.int .i64 m.w0)).set 6 (.int .i64 m.w1)).set 7 (.int .i64 m.v0)).set 8 (.int .i64 m.v1)).set 9 (.slice m.ra m.rn m.rc) = m.st zero26 zero26 := rfl
 have hZ0 := fun (W : World) => SAt.new W zst 93
 have hcan := fun (W1 W2 : World) hB hB2 hS hz2 hk2 => attempt_rule m w W1 W2 hok h hB hB2 hS hz2 hk2 hno
 have hl0 := m.st_length (X := zero26) (Y := zero26) rfl rfl
 have hlz : zst.length = 62 := zM.st_length rfl rfl
 have hoz := all_oneCell_toArray (zM.st_one zero26_one zero26_one)
 have ho0 := all_oneCell_toArray (m.st_one zero26_one zero26_one)
 have hi0 : (Tryz.prog.info? 93).map (·.size) = some 62 := by kernel_rfl
 have hia : (Tryz.prog.info? 93).map (·.size) = some (m.st zero26 zero26).toArray.size := by rw [List.size_toArray, hl0]; exact hi0
 have hiz : (Tryz.prog.info? 93).map (·.size) = some zst.toArray.size := by rw [List.size_toArray, hlz]; exact hi0
 have htz := fun (W : World) (g : Nat) (H : SAt W g zst) => H.there 0 (m.st zero26 zero26).toArray.size (by rw [List.size_toArray, hl0, hlz]; omega)
 have hfz := fun (W : World) (g : Nat) (H : SAt W g zst) => SAt.fill (L' := m.st zero26 zero26) H (by rw [hl0, hlz])
 change Array.all zst.toArray _ = true at hoz
 generalize m.st zero26 zero26 = L0 at *
 obtain ⟨W0, hW⟩ : ∃ W0, w.alloc (.cells #[.slice m.sa m.sn m.sc, .int .i64 m.c0, .int .i64 m.c1, .int .i64 m.d0, .int .i64 m.d1, .int .i64 m.w0, .int .i64 m.w1, .int .i64 m.v0, .int .i64 m.v1, .slice m.ra m.rn m.rc] 27) = W0 := ⟨_, rfl⟩
 have hb0 : Below w.heap.size w W0 := by rw [← hW]; exact (Below.refl _ _).alloc (Nat.le_refl _) _
 have hsz : W0.heap.size = w.heap.size + 1 := by rw [← hW, World.size_alloc]
 have hMA : MAt W0 w.heap.size m := by rw [← hW]; exact MAt.new w m
 have hR0 := hZ0 W0
 rw [hsz] at hR0
 have hism := fun (W : World) (hB : Below w.heap.size w W) => isMachine_any m W hs hr (h.below hB)
 rw [hok] at hism
 obtain ⟨q0, q1, q2, q3, q4, q5, q6, q7, q8, q9⟩ := (show MAt W0 w.heap.size m from hMA)
 clear hi0 hb1 hb2
 generalize hZZ : zst = Z at *
 clear hZZ
 go_enter Tryz.func46, Tryz.ntmps46
 go_wp2_with (first
  | (go_at_call 43; with_reducible refine (hism _ (hb0.alloc hb0.size _)).mono ?_; rintro e w1 ⟨rfl, hb1'⟩; have hs1 := hb1'.size; rw [World.size_alloc] at hs1; have hB1 := (hb0.alloc hb0.size _).trans (hb1'.mono (by rw [World.size_alloc]; omega)); have hMB1 := (hMA.below ((Below.refl W0.heap.size W0).alloc (Nat.le_refl _) _) (by omega)).below hb1' (by rw [World.size_alloc]; omega); obtain ⟨r0, r1, r2, r3, r4, r5, r6, r7, r8, r9⟩ := hMB1; have hR1 := hR0.below hb1' (by rw [World.size_alloc]; omega); clear hb1')
  | (with_reducible refine wpList_store_mid rfl 93 _ _ rfl w1.heap.size 0 L0.toArray rfl rfl (htz _ _ (hZ0 w1)) hia ho0 ?_))
 have hS2 := hfz _ _ (hZ0 w1)
 have hB2 := below_setCells hB1.size L0 0 _ (hB1.alloc hB1.size (Obj.cells Z.toArray 93))
 have hz2 : ((w1.alloc (Obj.cells Z.toArray 93)).setCells w1.heap.size 0 L0).heap.size = w1.heap.size + 1 := by rw [size_setCells, World.size_alloc]
 have hk2 : ∀ b, b < w1.heap.size → ((w1.alloc (Obj.cells Z.toArray 93)).setCells w1.heap.size 0 L0).heap[b]? = w1.heap[b]? := fun b hb => by
  rw [World.heap_setCells_other _ w1.heap.size 0 L0 (by rw [World.size_alloc]; omega) (by omega)]
  exact ((Below.refl w1.heap.size w1).alloc (Nat.le_refl _) _).block b hb
 refine (hcan w1 _ hB1 hB2 hS2 hz2 hk2).mono ?_
 rintro e w2 ⟨rfl, hL3⟩
 clear hcan
 have hi0 : (Tryz.prog.info? 93).map (·.size) = some 62 := by kernel_rfl
 have hiL : (Tryz.prog.info? 93).map (·.size) = some Z.length := by rw [hlz]; exact hi0
 have hR2 : SAt w2 (w.heap.size + 1) Z := hR1.far (hL3.kept _ (by omega))
 have hth := hR2.there 0 Z.toArray.size (by rw [List.size_toArray, hlz]; omega)
 have hR3 := SAt.fill (L' := Z) hR2 rfl
 have hB3 := below_setCells (b := w.heap.size + 1) (Nat.le_succ _) Z 0 w2 hL3.old
 have hlast := run_loadVar_mid (P := Tryz.prog) _ (w.heap.size + 1) 0 93 Z _ hR3.c Tryz.underlying93 rfl hiL
 clear hi0 hl0 hia hfz htz hZ0 hset hk2 hz2 hB2 hS2 hW hMA hism hR0 r0 r1 r2 r3 r4 r5 r6 r7 r8 r9 q0 q1 q2 q3 q4 q5 q6 q7 q8 q9
 go_wp2_with (first
  | (with_reducible refine wpList_store_mid rfl 93 _ _ rfl (w.heap.size + 1) 0 Z.toArray rfl rfl hth hiz hoz ?_))
 refine bodyPost_ret (v := .tuple #[.agg Z.toArray, .int .i64 7]) (by simp [results, Tryz.results46, asAddr, hlast]) rfl ⟨rfl, hB3⟩
set_option maxRecDepth 100000 in
set_option maxHeartbeats 4000000 in
theorem examine_arg (m : Mach) (fine : Bool) (w : World) (hs : m.sn ≤ 1000) (hr : m.rn ≤ 9223372036854775807) (h : MIn w m) (hno : (m.ok && fine) = false) :
  Calls Tryz.prog 46 #[m.val, .bool fine] w fun e w' => e = .returned (.tuple #[.agg zst.toArray, .int .i64 2]) ∧ Below w.heap.size w w' := by
 have hal := zst_lit
 have hlz : zst.length = 62 := zM.st_length rfl rfl
 have hoz := all_oneCell_toArray (zM.st_one zero26_one zero26_one)
 change Array.all zst.toArray _ = true at hoz
 have hi0 : (Tryz.prog.info? 93).map (·.size) = some 62 := by kernel_rfl
 have hiz : (Tryz.prog.info? 93).map (·.size) = some zst.toArray.size := by rw [List.size_toArray, hlz]; exact hi0
 have hiL : (Tryz.prog.info? 93).map (·.size) = some zst.length := by rw [hlz]; exact hi0
 obtain ⟨W0, hW⟩ : ∃ W0, w.alloc (.cells #[.slice m.sa m.sn m.sc, .int .i64 m.c0, .int .i64 m.c1, .int .i64 m.d0, .int .i64 m.d1, .int .i64 m.w0, .int .i64 m.w1, .int .i64 m.v0, .int .i64 m.v1, .slice m.ra m.rn m.rc] 27) = W0 := ⟨_, rfl⟩
 have hb0 : Below w.heap.size w W0 := by rw [← hW]; exact (Below.refl _ _).alloc (Nat.le_refl _) _
 have hsz : W0.heap.size = w.heap.size + 1 := by rw [← hW, World.size_alloc]
 have hMA : MAt W0 w.heap.size m := by rw [← hW]; exact MAt.new w m
 have hR0 := SAt.new W0 zst 93
 rw [hsz] at hR0
 have hism := fun (W : World) (hB : Below w.heap.size w W) => isMachine_any m W hs hr (h.below hB)
 obtain ⟨q0, q1, q2, q3, q4, q5, q6, q7, q8, q9⟩ := (show MAt W0 w.heap.size m from hMA)
 clear hi0
 generalize hZZ : zst = Z at *
 cases hok : m.ok with
 | false =>
  rw [hok] at hism
  clear hok hno
  go_enter Tryz.func46, Tryz.ntmps46
  go_wp2_with (first
   | (go_at_call 43; with_reducible refine (hism _ (hb0.alloc hb0.size _)).mono ?_; rintro e w1 ⟨rfl, hb1'⟩; have hs1 := hb1'.size; rw [World.size_alloc] at hs1; have hB1 := (hb0.alloc hb0.size _).trans (hb1'.mono (by rw [World.size_alloc]; omega)); have hMB1 := (hMA.below ((Below.refl W0.heap.size W0).alloc (Nat.le_refl _) _) (by omega)).below hb1' (by rw [World.size_alloc]; omega); obtain ⟨r0, r1, r2, r3, r4, r5, r6, r7, r8, r9⟩ := hMB1; have hR1 := hR0.below hb1' (by rw [World.size_alloc]; omega); have hth := hR1.there 0 Z.toArray.size (by rw [List.size_toArray, hlz]; omega); clear hb1')
   | (with_reducible refine wpList_store_mid rfl 93 _ _ rfl (w.heap.size + 1) 0 Z.toArray rfl rfl hth hiz hoz ?_))
  have hR3 := SAt.fill (L' := Z) hR1 rfl
  have hB3 := below_setCells (b := w.heap.size + 1) (Nat.le_succ _) Z 0 w1 hB1
  have hlast := run_loadVar_mid (P := Tryz.prog) _ (w.heap.size + 1) 0 93 Z _ hR3.c Tryz.underlying93 rfl hiL
  refine bodyPost_ret (v := .tuple #[.agg Z.toArray, .int .i64 2]) (by simp [results, Tryz.results46, asAddr, hlast]) rfl ⟨rfl, hB3⟩
 | true =>
  rw [hok] at hism
  rw [hok, Bool.true_and] at hno
  subst hno
  clear hok
  go_enter Tryz.func46, Tryz.ntmps46
  go_wp2_with (first
   | (go_at_call 43; with_reducible refine (hism _ (hb0.alloc hb0.size _)).mono ?_; rintro e w1 ⟨rfl, hb1'⟩; have hs1 := hb1'.size; rw [World.size_alloc] at hs1; have hB1 := (hb0.alloc hb0.size _).trans (hb1'.mono (by rw [World.size_alloc]; omega)); have hMB1 := (hMA.below ((Below.refl W0.heap.size W0).alloc (Nat.le_refl _) _) (by omega)).below hb1' (by rw [World.size_alloc]; omega); obtain ⟨r0, r1, r2, r3, r4, r5, r6, r7, r8, r9⟩ := hMB1; have hR1 := hR0.below hb1' (by rw [World.size_alloc]; omega); have hth := hR1.there 0 Z.toArray.size (by rw [List.size_toArray, hlz]; omega); clear hb1')
   | (with_reducible refine wpList_store_mid rfl 93 _ _ rfl (w.heap.size + 1) 0 Z.toArray rfl rfl hth hiz hoz ?_))
  have hR3 := SAt.fill (L' := Z) hR1 rfl
  have hB3 := below_setCells (b := w.heap.size + 1) (Nat.le_succ _) Z 0 w1 hB1
  have hlast := run_loadVar_mid (P := Tryz.prog) _ (w.heap.size + 1) 0 93 Z _ hR3.c Tryz.underlying93 rfl hiL
  refine bodyPost_ret (v := .tuple #[.agg Z.toArray, .int .i64 2]) (by simp [results, Tryz.results46, asAddr, hlast]) rfl ⟨rfl, hB3⟩
end Go.Proofs.YtjhpklolpmaopaaGreatDoor
namespace Go.Proofs.YtjhpklolpmaopaaGreatDoor
open Go.RowKit
/-- the machine has a truth. -/
def Mach.can (m : Mach) : Prop := m.axX.can ∧ m.axY.can
/-- what examine finds: the cells, and the error. -/
structure Exam (m : Mach) (fine : Bool) (L : List Value) (er : Int) : Prop where
 arg : (m.ok && fine) = false → L = zst ∧ er = 2
 rule : (m.ok && fine) = true → ¬ m.can → L = zst ∧ er = 7
 ok : (m.ok && fine) = true → m.can → L = m.st (crsL m.axX.ends 13) (crsL m.axY.ends 13) ∧ er = 0
theorem Exam.length {m : Mach} {fine : Bool} {L : List Value} {er : Int} (h : Exam m fine L er) : L.length = 62 := by
 cases hf : (m.ok && fine) with
 | false => rw [(h.arg hf).1]; exact zM.st_length rfl rfl
 | true => exact (Classical.em m.can).elim (fun hc => by rw [(h.ok hf hc).1]; exact m.st_length (crsL_length _ 13) (crsL_length _ 13)) fun hc => by rw [(h.rule hf hc).1]; exact zM.st_length rfl rfl
theorem Exam.one {m : Mach} {fine : Bool} {L : List Value} {er : Int} (h : Exam m fine L er) : ∀ v ∈ L, v.oneCell' = true := by
 have hz := zM.st_one zero26_one zero26_one
 cases hf : (m.ok && fine) with
 | false => rw [(h.arg hf).1]; exact hz
 | true => exact (Classical.em m.can).elim (fun hc => by rw [(h.ok hf hc).1]; exact m.st_one (crsL_one _ 13) (crsL_one _ 13)) fun hc => by rw [(h.rule hf hc).1]; exact hz
theorem examine_any (m : Mach) (fine : Bool) (w : World) (hs : m.sn ≤ 1000) (hr : m.rn ≤ 9223372036854775807) (h : MIn w m) :
  ∃ (L : List Value) (er : Int), Exam m fine L er ∧ ∀ W, Below w.heap.size w W → Calls Tryz.prog 46 #[m.val, .bool fine] W fun e w' => e = .returned (.tuple #[.agg L.toArray, .int .i64 er]) ∧ Below W.heap.size W w' := by
 cases hf : (m.ok && fine) with
 | false => exact ⟨zst, 2, ⟨fun _ => ⟨rfl, rfl⟩, (fun h => by rw [hf] at h; cases h), (fun h => by rw [hf] at h; cases h)⟩, fun W hW => examine_arg m fine W hs hr (h.below hW) hf⟩
 | true =>
  have hf' := hf
  rw [Bool.and_eq_true] at hf'
  obtain ⟨hok, rfl⟩ := hf'
  by_cases hc : m.can
  ·exact ⟨_, 0, ⟨(fun h => by rw [hf] at h; cases h), fun _ h => absurd hc h, fun _ _ => ⟨rfl, rfl⟩⟩, fun W hW => examine_ok m W hs hr (h.below hW) hok hc.1 hc.2⟩
  ·exact ⟨zst, 7, ⟨(fun h => by rw [hf] at h; cases h), fun _ _ => ⟨rfl, rfl⟩, fun _ h => absurd h hc⟩, fun W hW => examine_rule m W hs hr (h.below hW) hok hc⟩
/-- the error of a machine. -/
structure Able (m : Mach) (fine : Bool) (er : Int) : Prop where
 arg : (m.ok && fine) = false → er = 2
 rule : (m.ok && fine) = true → ¬ m.can → er = 7
 ok : (m.ok && fine) = true → m.can → er = 0
theorem Able.same {m : Mach} {fine : Bool} {a b : Int} (ha : Able m fine a) (hb : Able m fine b) : a = b := by
 cases hf : (m.ok && fine) with
 | false => rw [ha.arg hf, hb.arg hf]
 | true => exact (Classical.em m.can).elim (fun hc => by rw [ha.ok hf hc, hb.ok hf hc]) fun hc => by rw [ha.rule hf hc, hb.rule hf hc]
end Go.Proofs.YtjhpklolpmaopaaGreatDoor
namespace Go.Proofs.YtjhpklolpmaopaaGreatDoor
open Go.RowKit
set_option maxRecDepth 100000 in
set_option maxHeartbeats 4000000 in
theorem at_any (L : List Value) (b : Nat) (hb : b ≤ 12) (x0 x1 y0 y1 : Int) (w : World) (e0 : L[10 + b * 2]? = some (.int .i64 x0)) (e1 : L[10 + b * 2 + 1]? = some (.int .i64 x1)) (e2 : L[36 + b * 2]? = some (.int .i64 y0)) (e3 : L[36 + b * 2 + 1]? = some (.int .i64 y1)) :
  Calls Tryz.prog 52 #[.agg L.toArray, .int .i64 b] w fun e w' => e = .returned (.agg #[.int .i64 x0, .int .i64 x1, .int .i64 y0, .int .i64 y1]) ∧ Below w.heap.size w w' := by
 obtain ⟨W0, hW0⟩ : ∃ W0, w.alloc (Obj.cells L.toArray 93) = W0 := ⟨_, rfl⟩
 have hS : SAt W0 w.heap.size L := by rw [← hW0]; exact SAt.new w L _
 have hb0 : Below w.heap.size w W0 := by rw [← hW0]; exact (Below.refl _ _).alloc (Nat.le_refl _) _
 have hsz : W0.heap.size = w.heap.size + 1 := by rw [← hW0, World.size_alloc]
 have c0 := hS.c _ _ e0
 have c1 := hS.c _ _ e1
 have c2 := hS.c _ _ e2
 have c3 := hS.c _ _ e3
 rw [Nat.zero_add] at c0 c1 c2 c3
 have hk0 : (0 : Int) ≤ (b : Int) := Int.natCast_nonneg _
 have hk1 : (b : Int) < 13 := by omega
 have hne : w.heap.size ≠ W0.heap.size := by omega
 obtain ⟨W1, hW1⟩ : ∃ W1, W0.alloc (Obj.cells #[.int .i64 0, .int .i64 0, .int .i64 0, .int .i64 0] 99) = W1 := ⟨_, rfl⟩
 have hb1 : Below W0.heap.size W0 W1 := by rw [← hW1]; exact (Below.refl _ _).alloc (Nat.le_refl _) _
 have d0 := (hb1.cell (p := ⟨w.heap.size, 10 + b * 2, none⟩) (by show w.heap.size < _; omega)).trans c0
 have d1 := (hb1.cell (p := ⟨w.heap.size, 10 + b * 2 + 1, none⟩) (by show w.heap.size < _; omega)).trans c1
 have d2 := (hb1.cell (p := ⟨w.heap.size, 36 + b * 2, none⟩) (by show w.heap.size < _; omega)).trans c2
 have d3 := (hb1.cell (p := ⟨w.heap.size, 36 + b * 2 + 1, none⟩) (by show w.heap.size < _; omega)).trans c3
 have r : ∀ j, j < 4 → W1.cell? ⟨w.heap.size + 1, j, none⟩ = some (.int .i64 0) ∧ W1.frozen? ⟨w.heap.size + 1, j, none⟩ = false := fun j hj => by
  rw [← hW1, ← hsz]
  refine ⟨cells_new W0 _ _ ?_, by simp [go_sem]⟩
  match j, hj with
  | 0, _ => rfl | 1, _ => rfl | 2, _ => rfl | 3, _ => rfl
 obtain ⟨r0, z0⟩ := r 0 (by omega)
 obtain ⟨r1, z1⟩ := r 1 (by omega)
 obtain ⟨r2, z2⟩ := r 2 (by omega)
 obtain ⟨r3, z3⟩ := r 3 (by omega)
 clear r c0 c1 c2 c3 hS e0 e1 e2 e3 hne
 go_enter Tryz.func52, Tryz.ntmps52
 go_wp2
 go_still_tail 11, (by kernel_rfl)
 change wpList _ _ _ _ _ W1.drew
 go_wp2
 refine bodyPost_ret (v := .agg #[.int .i64 x0, .int .i64 x1, .int .i64 y0, .int .i64 y1]) (by simp [results, Tryz.results52, go_sem, r0, r1, r2, r3]) rfl ⟨rfl, ?_⟩
 have hb2 : Below w.heap.size w W1.drew := (hb0.trans (hb1.mono hb0.size)).drew
 exact (((hb2.setCell (p := ⟨w.heap.size + 1, 0, none⟩) (Nat.le_succ _) _).setCell (p := ⟨w.heap.size + 1, 1, none⟩) (Nat.le_succ _) _).setCell (p := ⟨w.heap.size + 1, 2, none⟩) (Nat.le_succ _) _).setCell (p := ⟨w.heap.size + 1, 3, none⟩) (Nat.le_succ _) _
theorem st_atX (m : Mach) (f g : Nat → Int × Int) (b : Nat) (hb : b ≤ 12) : (m.st (crsL f 13) (crsL g 13))[10 + b * 2]? = some (.int .i64 (f b).1) ∧ (m.st (crsL f 13) (crsL g 13))[10 + b * 2 + 1]? = some (.int .i64 (f b).2) := by
 have hl := crsL_length f 13
 obtain ⟨h1, h2⟩ := crsL_at f 13 b (by omega)
 have hc : m.cells.length = 10 := rfl
 unfold Mach.st
 refine ⟨?_, ?_⟩
 ·rw [List.getElem?_append_right (by omega), List.getElem?_append_left (by omega), hc, show 10 + b * 2 - 10 = b * 2 by omega]; exact h1
 ·rw [List.getElem?_append_right (by omega), List.getElem?_append_left (by omega), hc, show 10 + b * 2 + 1 - 10 = b * 2 + 1 by omega]; exact h2
theorem st_atY (m : Mach) (f g : Nat → Int × Int) (b : Nat) (hb : b ≤ 12) : (m.st (crsL f 13) (crsL g 13))[36 + b * 2]? = some (.int .i64 (g b).1) ∧ (m.st (crsL f 13) (crsL g 13))[36 + b * 2 + 1]? = some (.int .i64 (g b).2) := by
 have hl := crsL_length f 13
 have hl2 := crsL_length g 13
 obtain ⟨h1, h2⟩ := crsL_at g 13 b (by omega)
 have hc : m.cells.length = 10 := rfl
 unfold Mach.st
 refine ⟨?_, ?_⟩
 ·rw [List.getElem?_append_right (by omega), List.getElem?_append_right (by omega), hc, hl, show 36 + b * 2 - 10 - 2 * 13 = b * 2 by omega]; exact h1
 ·rw [List.getElem?_append_right (by omega), List.getElem?_append_right (by omega), hc, hl, show 36 + b * 2 + 1 - 10 - 2 * 13 = b * 2 + 1 by omega]; exact h2
end Go.Proofs.YtjhpklolpmaopaaGreatDoor
namespace Go.Proofs.YtjhpklolpmaopaaGreatDoor
open Go.RowKit
/-- what stays while a button's sightings are found, as one goes through the blanks. -/
structure GA (w W : World) (n sb so cap cb b1 o1 k1 bm kk g t : Nat) (SX SY HX HY : Nat → Int) (r : Int) (L : List Value) (Q : Int → Int → Bool) : Prop where
 old : Below w.heap.size w W
 tg : TrialG W n sb so cap cb b1 o1 k1 SX SY HX HY r
 gm : GoodAt W bm kk Q
 st : SAt W g L
 t0 : W.cell? ⟨t, 0, none⟩ = some (.slice (some ⟨sb, so, none⟩) n cap)
 t1 : W.cell? ⟨t, 1, none⟩ = some (.func (.func 91) #[] #[.pointer (some ⟨cb, 0, none⟩)])
 t2 : W.cell? ⟨t, 2, none⟩ = some (.map (some bm))
 lg : g < bm
 lt : bm < t
 big : t < W.heap.size
 ls : sb < bm
 l1 : b1 < bm
 lc : cb < bm
 lw : w.heap.size ≤ bm
theorem GA.below {w W W' : World} {n sb so cap cb b1 o1 k1 bm kk g t : Nat} {SX SY HX HY : Nat → Int} {r : Int} {L : List Value} {Q : Int → Int → Bool} (h : GA w W n sb so cap cb b1 o1 k1 bm kk g t SX SY HX HY r L Q) (hb : Below W.heap.size W W') : GA w W' n sb so cap cb b1 o1 k1 bm kk g t SX SY HX HY r L Q := by
 have h1 := h.lg; have h2 := h.lt; have h3 := h.big
 exact ⟨h.old.trans (hb.mono h.old.size), h.tg.below hb, h.gm.below hb h.gm.lt, h.st.below hb (by omega), (hb.cell (p := ⟨t, 0, none⟩) h3).trans h.t0, (hb.cell (p := ⟨t, 1, none⟩) h3).trans h.t1, (hb.cell (p := ⟨t, 2, none⟩) h3).trans h.t2, h1, h2, Nat.lt_of_lt_of_le h3 hb.size, h.ls, h.l1, h.lc, h.lw⟩
theorem GA.grown {w W W' : World} {n sb so cap cb b1 o1 k1 bm kk kk' g t : Nat} {SX SY HX HY : Nat → Int} {r : Int} {L : List Value} {Q : Int → Int → Bool} (h : GA w W n sb so cap cb b1 o1 k1 bm kk g t SX SY HX HY r L Q) (hg : W.grownBy W' (some bm)) (hgm : GoodAt W' bm kk' Q) : GA w W' n sb so cap cb b1 o1 k1 bm kk' g t SX SY HX HY r L Q := by
 have h1 := h.lg; have h2 := h.lt; have h3 := h.big; have h4 := h.lw; have h5 := h.old.size
 have c : ∀ j, W'.cell? ⟨t, j, none⟩ = W.cell? ⟨t, j, none⟩ := fun j => World.cell?_of_block (hg.block t h3 (by intro e; injection e; omega))
 exact ⟨h.old.grown hg h5 (fun k e => by cases e; exact h4), h.tg.grown hg h.ls h.l1 h.lc, hgm, h.st.far (hg.block g (by omega) (by intro e; injection e; omega)), (c _).trans h.t0, (c _).trans h.t1, (c _).trans h.t2, h1, h2, Nat.lt_of_lt_of_le h3 hg.size, h.ls, h.l1, h.lc, h.lw⟩
theorem GA.mono {w W : World} {n sb so cap cb b1 o1 k1 bm kk kk' g t : Nat} {SX SY HX HY : Nat → Int} {r : Int} {L : List Value} {Q : Int → Int → Bool} (h : GA w W n sb so cap cb b1 o1 k1 bm kk g t SX SY HX HY r L Q) (hk : kk ≤ kk') : GA w W n sb so cap cb b1 o1 k1 bm kk' g t SX SY HX HY r L Q :=
 ⟨h.old, h.tg, h.gm.mono hk, h.st, h.t0, h.t1, h.t2, h.lg, h.lt, h.big, h.ls, h.l1, h.lc, h.lw⟩
theorem GA.far {w W W' : World} {n sb so cap cb b1 o1 k1 bm kk g t : Nat} {SX SY HX HY : Nat → Int} {r : Int} {L : List Value} {Q : Int → Int → Bool} (h : GA w W n sb so cap cb b1 o1 k1 bm kk g t SX SY HX HY r L Q) (hb : Below (t + 1) W W') : GA w W' n sb so cap cb b1 o1 k1 bm kk g t SX SY HX HY r L Q := by
 have h1 := h.lg; have h2 := h.lt; have h3 := h.big; have h4 := h.ls; have h5 := h.l1; have h6 := h.lc; have h7 := h.lw
 exact ⟨h.old.trans (hb.mono (by omega)), h.tg.far (hb.block sb (by omega)) (hb.block b1 (by omega)) (hb.block cb (by omega)) hb.size, h.gm.below hb (by omega), h.st.below hb (by omega), (hb.cell (p := ⟨t, 0, none⟩) (by show t < _; omega)).trans h.t0, (hb.cell (p := ⟨t, 1, none⟩) (by show t < _; omega)).trans h.t1, (hb.cell (p := ⟨t, 2, none⟩) (by show t < _; omega)).trans h.t2, h1, h2, Nat.lt_of_lt_of_le h3 hb.size, h.ls, h.l1, h.lc, h.lw⟩
/-- the row of what is found, and the trial's blocks. -/
structure GR (w W : World) (n sb so cap cb b1 o1 k1 bm kk g t : Nat) (SX SY HX HY : Nat → Int) (r : Int) (L : List Value) (Q : Int → Int → Bool) (e : TypeId) (v : Value) (c : Nat) (xs : List Value) : Prop where
 ga : GA w W n sb so cap cb b1 o1 k1 bm kk g t SX SY HX HY r L Q
 row : W.ownsRow (t + 1) e 2 v c xs
theorem GR.below {w W W' : World} {n sb so cap cb b1 o1 k1 bm kk g t c : Nat} {SX SY HX HY : Nat → Int} {r : Int} {L xs : List Value} {Q : Int → Int → Bool} {e : TypeId} {v : Value} (h : GR w W n sb so cap cb b1 o1 k1 bm kk g t SX SY HX HY r L Q e v c xs) (hb : Below W.heap.size W W') : GR w W' n sb so cap cb b1 o1 k1 bm kk g t SX SY HX HY r L Q e v c xs :=
 ⟨h.ga.below hb, ownsRow_below h.row hb⟩
theorem GR.grown {w W W' : World} {n sb so cap cb b1 o1 k1 bm kk kk' g t c : Nat} {SX SY HX HY : Nat → Int} {r : Int} {L xs : List Value} {Q : Int → Int → Bool} {e : TypeId} {v : Value} (h : GR w W n sb so cap cb b1 o1 k1 bm kk g t SX SY HX HY r L Q e v c xs) (hg : W.grownBy W' (some bm)) (hgm : GoodAt W' bm kk' Q) : GR w W' n sb so cap cb b1 o1 k1 bm kk' g t SX SY HX HY r L Q e v c xs :=
 ⟨h.ga.grown hg hgm, h.row.kept hg (by
  have h1 := h.ga.lt
  cases hv : v.ownBlock with
  | none => exact .inl rfl
  | some b => exact .inr fun x => by have := (h.row.lt b hv).1; cases x; omega)⟩
theorem GR.mono {w W : World} {n sb so cap cb b1 o1 k1 bm kk kk' g t c : Nat} {SX SY HX HY : Nat → Int} {r : Int} {L xs : List Value} {Q : Int → Int → Bool} {e : TypeId} {v : Value} (h : GR w W n sb so cap cb b1 o1 k1 bm kk g t SX SY HX HY r L Q e v c xs) (hk : kk ≤ kk') : GR w W n sb so cap cb b1 o1 k1 bm kk' g t SX SY HX HY r L Q e v c xs := ⟨h.ga.mono hk, h.row⟩
theorem GR.push {w W W' : World} {n sb so cap cb b1 o1 k1 bm kk g t c c' : Nat} {SX SY HX HY : Nat → Int} {r : Int} {L xs xs' : List Value} {Q : Int → Int → Bool} {e : TypeId} {v v' : Value} (h : GR w W n sb so cap cb b1 o1 k1 bm kk g t SX SY HX HY r L Q e v c xs) (o : Obj) (hg : (W.alloc o).grownBy W' v.ownBlock) (hown : W'.ownsRow (t + 1) e 2 v' c' xs') : GR w W' n sb so cap cb b1 o1 k1 bm kk g t SX SY HX HY r L Q e v' c' xs' := by
 have h3 := h.ga.big
 have hb : Below (t + 1) W W' := ((Below.refl _ _).alloc (by omega) o).grown hg (by rw [World.size_alloc]; omega) fun j hj => (h.row.lt j hj).1
 exact ⟨h.ga.far hb, hown⟩
/-- the cells of a list of sightings. -/
def sgCells (l : List (Nat × Option Addr × Nat × Nat)) : List Value := l.flatMap fun p => [.int .i64 p.1, .slice p.2.1 p.2.2.1 p.2.2.2]
theorem sgCells_push (l : List (Nat × Option Addr × Nat × Nat)) (j : Nat) (v : Option Addr × Nat × Nat) : sgCells (l ++ [(j, v)]) = sgCells l ++ [.int .i64 j, .slice v.1 v.2.1 v.2.2] := by unfold sgCells; simp
theorem sgCells_at (l : List (Nat × Option Addr × Nat × Nat)) : ∀ (j : Nat) (h : j < l.length), (sgCells l)[j * 2]? = some (.int .i64 (l[j]).1) ∧ (sgCells l)[j * 2 + 1]? = some (.slice (l[j]).2.1 (l[j]).2.2.1 (l[j]).2.2.2) := by
 induction l with
 | nil => intro j h; exact absurd h (Nat.not_lt_zero _)
 | cons x l ih =>
  intro j h
  have e : sgCells (x :: l) = .int .i64 x.1 :: .slice x.2.1 x.2.2.1 x.2.2.2 :: sgCells l := rfl
  cases j with
  | zero => rw [e]; exact ⟨rfl, rfl⟩
  | succ j =>
   have := ih j (Nat.lt_of_succ_lt_succ h)
   rw [e, show (j + 1) * 2 = j * 2 + 1 + 1 by omega]
   exact this
/-- the blanks up to j that a test lets through. -/
def blanksTo (sg : Nat → Bool) (j : Nat) : List Nat := ((List.range j).map (· + 1)).filter sg
theorem blanksTo_yes {sg : Nat → Bool} {j : Nat} (h : sg (j + 1) = true) : blanksTo sg (j + 1) = blanksTo sg j ++ [j + 1] := by
 unfold blanksTo; rw [List.range_succ, List.map_append, List.filter_append]; simp [h]
theorem blanksTo_no {sg : Nat → Bool} {j : Nat} (h : sg (j + 1) = false) : blanksTo sg (j + 1) = blanksTo sg j := by
 unfold blanksTo; rw [List.range_succ, List.map_append, List.filter_append]; simp [h]
theorem blanksTo_length (sg : Nat → Bool) (j : Nat) : (blanksTo sg j).length ≤ j := by
 unfold blanksTo
 exact Nat.le_trans (List.length_filter_le _ _) (by simp)
end Go.Proofs.YtjhpklolpmaopaaGreatDoor
namespace Go.Proofs.YtjhpklolpmaopaaGreatDoor
open Go.RowKit
theorem infoSg : (Tryz.prog.info? 162).map (fun i => (i.zero, i.size, i.bytes)) = some (some (.agg #[.int .i64 0, .slice none 0 0]), 2, 32) := by kernel_rfl
set_option maxRecDepth 100000 in
set_option maxHeartbeats 2000000 in
theorem sightings_any (m : Mach) (L : List Value) (EX EY : Nat → Int × Int) (b1 o1 c1 sb so : Nat) (r : Int) (HX HY : Nat → Int) (sg : Nat → Bool) (w : World)
  (hsa : m.sa = some ⟨sb, so, none⟩) (hLm : ∀ (j : Nat) (u : Value), m.cells[j]? = some u → L[j]? = some u)
  (hat : ∀ (j : Nat) (W : World), j < 12 → Calls Tryz.prog 52 #[.agg L.toArray, .int .i64 ((j : Int) + 1)] W fun e w' => e = .returned (.agg #[.int .i64 (EX (j + 1)).1, .int .i64 (EX (j + 1)).2, .int .i64 (EY (j + 1)).1, .int .i64 (EY (j + 1)).2]) ∧ Below W.heap.size W w')
  (hlL : L.length = 62) (pS : Pts w sb so m.sn m.SX m.SY) (p1 : Pts w b1 o1 m.sn HX HY) (lsb : sb < w.heap.size) (l1 : b1 < w.heap.size) (q3 : 0 ≤ r) (q4 : r ≤ 6) (q1 : 2 ≤ m.sn) (q2 : m.sn ≤ 4)
  (hsS : ∀ i, i < m.sn → (-20 ≤ m.SX i ∧ m.SX i ≤ 20) ∧ (-20 ≤ m.SY i ∧ m.SY i ≤ 20)) (hsH : ∀ i, i < m.sn → small (HX i, HY i))
  (hbX : ∀ k, k ≤ 12 → -48 ≤ (EX k).1 ∧ (EX k).2 ≤ 48 ∧ (EX k).1 ≤ 1000) (hbY : ∀ k, k ≤ 12 → -48 ≤ (EY k).1 ∧ (EY k).2 ≤ 48 ∧ (EY k).1 ≤ 1000)
  (hsg : ∀ k, k ≤ 12 → (sg k = false ↔ ∀ x y, InBox (EX k).1 (EX k).2 (EY k).1 (EY k).2 x y → agreeB m.sn HX HY m.SX m.SY r x y = false)) :
  Calls Tryz.prog 90 #[.agg L.toArray, .agg #[.slice (some ⟨b1, o1, none⟩) m.sn c1, .int .i64 r]] w fun e w' => ∃ (l : List (Nat × Option Addr × Nat × Nat)) (v : Value), e = .returned v ∧ w'.ownsRow w.heap.size 162 2 v l.length (sgCells l) ∧ l.map (·.1) = blanksTo sg 12 ∧ Below w.heap.size w w' := by
 obtain ⟨i0, hi, hz0, hz1, hz2⟩ := info_parts infoSg
 have hi0 : (Tryz.prog.info? 93).map (·.size) = some 62 := by kernel_rfl
 have hiL : (Tryz.prog.info? 93).map (·.size) = some L.length := by rw [hlL]; exact hi0
 obtain ⟨W0, hW0⟩ : ∃ W0, (w.alloc (Obj.cells L.toArray 93)).alloc (Obj.cells #[.slice (some ⟨b1, o1, none⟩) m.sn c1, .int .i64 r] 41) = W0 := ⟨_, rfl⟩
 have hs0 : W0.heap.size = w.heap.size + 1 + 1 := by rw [← hW0, World.size_alloc, World.size_alloc]
 have hbA : Below (w.alloc (Obj.cells L.toArray 93)).heap.size (w.alloc (Obj.cells L.toArray 93)) W0 := by rw [← hW0]; exact (Below.refl _ _).alloc (Nat.le_refl _) _
 have hbW : Below w.heap.size w W0 := ((Below.refl _ _).alloc (Nat.le_refl _) _).trans (hbA.mono (by rw [World.size_alloc]; omega))
 have hS : SAt W0 w.heap.size L := (SAt.new w L 93).below hbA (by rw [World.size_alloc]; omega)
 have u0 : W0.cell? ⟨w.heap.size + 1, 0, none⟩ = some (.slice (some ⟨b1, o1, none⟩) m.sn c1) := by rw [← hW0]; have := cells_new (w.alloc (Obj.cells L.toArray 93)) #[.slice (some ⟨b1, o1, none⟩) m.sn c1, .int .i64 r] 41 (j := 0) rfl; rw [World.size_alloc] at this; exact this
 have u1 : W0.cell? ⟨w.heap.size + 1, 1, none⟩ = some (.int .i64 r) := by rw [← hW0]; have := cells_new (w.alloc (Obj.cells L.toArray 93)) #[.slice (some ⟨b1, o1, none⟩) m.sn c1, .int .i64 r] 41 (j := 1) rfl; rw [World.size_alloc] at this; exact this
 have hq : ∀ (j : Nat) (u : Value), m.cells[j]? = some u → W0.cell? ⟨w.heap.size, j, none⟩ = some u := fun j u h => by have := hS.c j u (hLm j u h); rw [Nat.zero_add] at this; exact this
 have y0 := hq 0 _ rfl
 have y1 := hq 1 _ rfl
 have y2 := hq 2 _ rfl
 have y3 := hq 3 _ rfl
 have y4 := hq 4 _ rfl
 have y5 := hq 5 _ rfl
 have y6 := hq 6 _ rfl
 have y7 := hq 7 _ rfl
 have y8 := hq 8 _ rfl
 have y9 := hq 9 _ rfl
 rw [hsa] at y0
 clear hq
 generalize hQ : agreeB m.sn HX HY m.SX m.SY r = Q at hsg
 have hgo := agreement_any b1 o1 m.sn c1 sb so r m hsa Q W0
 rw [hs0] at hgo
 unfold Mach.val at hgo
 rw [hsa] at hgo
 go_enter Tryz.func90, Tryz.ntmps90
 go_wp2_with (go_at_call 50; with_reducible refine hgo.mono ?_; rintro e w3 ⟨rfl, hb3, t0, t1, hg3⟩)
 clear y0 y1 y2 y3 y4 y5 y6 y7 y8 y9 u0 u1 hgo
 have hl3 := hg3.lt
 have hz3 := hb3.size
 have hbT : Below w3.heap.size w3 (w3.alloc (Obj.cells #[.slice (some ⟨sb, so, none⟩) m.sn m.sc, .func (.func 91) #[] #[.pointer (some ⟨w.heap.size + 1 + 1 + 1, 0, none⟩)], .map (some (w.heap.size + 1 + 1 + 1 + 1 + 1))] 103)) := (Below.refl _ _).alloc (Nat.le_refl _) _
 have hO3 := hbW.trans (hb3.mono (by omega))
 have hO4 := hO3.trans (hbT.mono (by omega))
 have hG0 : GA w (w3.alloc (Obj.cells #[.slice (some ⟨sb, so, none⟩) m.sn m.sc, .func (.func 91) #[] #[.pointer (some ⟨w.heap.size + 1 + 1 + 1, 0, none⟩)], .map (some (w.heap.size + 1 + 1 + 1 + 1 + 1))] 103)) m.sn sb so m.sc (w.heap.size + 1 + 1 + 1) b1 o1 c1 (w.heap.size + 1 + 1 + 1 + 1 + 1) 0 w.heap.size w3.heap.size m.SX m.SY HX HY r L Q :=
  ⟨hO4, ⟨pS.below hO4 lsb, p1.below hO4 l1, (hbT.cell (p := ⟨w.heap.size + 1 + 1 + 1, 0, none⟩) (by show w.heap.size + 1 + 1 + 1 < _; omega)).trans t0, (hbT.cell (p := ⟨w.heap.size + 1 + 1 + 1, 1, none⟩) (by show w.heap.size + 1 + 1 + 1 < _; omega)).trans t1, by have := hO4.size; omega, by have := hO4.size; omega, by rw [World.size_alloc]; omega, q3, q4, q1, q2, hsS, hsH⟩,
   hg3.below hbT hl3, (hS.below hb3 (by omega)).below hbT (by omega), cells_new w3 _ _ rfl, cells_new w3 _ _ rfl, cells_new w3 _ _ rfl, by omega, by omega, by rw [World.size_alloc]; omega, by omega, by omega, by omega, by omega⟩
 generalize w3.alloc (Obj.cells #[.slice (some ⟨sb, so, none⟩) m.sn m.sc, .func (.func 91) #[] #[.pointer (some ⟨w.heap.size + 1 + 1 + 1, 0, none⟩)], .map (some (w.heap.size + 1 + 1 + 1 + 1 + 1))] 103) = W4 at *
 clear hb3 t0 t1 hg3 hbT hO3 hO4 hS hbA hbW hW0
 have hQ : PLift (agreeB m.sn HX HY m.SX m.SY r = Q) := ⟨hQ⟩
 go_loopw [5, 14] (fun v i wr => ∃ (j : Nat) (l : List (Nat × Option Addr × Nat × Nat)), j ≤ 12 ∧ i = .int .i64 j ∧ GA w wr m.sn sb so m.sc (w.heap.size + 1 + 1 + 1) b1 o1 c1 (w.heap.size + 1 + 1 + 1 + 1 + 1) (j * 40401) w.heap.size w3.heap.size m.SX m.SY HX HY r L Q ∧ wr.ownsRow (w3.heap.size + 1) 162 2 v l.length (sgCells l) ∧ l.map (·.1) = blanksTo sg j) (fun _ i _ => 12 - (intOf i).toNat)
 case atStart => exact ⟨0, [], Nat.zero_le _, rfl, by rw [Nat.zero_mul]; exact hG0, ⟨rfl, .inl ⟨rfl, rfl⟩⟩, rfl⟩
 case round =>
  obtain ⟨j, l, hj, rfl, hG, hrow, hlm⟩ := hrel
  obtain ⟨va, vc, rfl⟩ := ownsRow_slice hrow
  by_cases hlt : j < 12
  ·have hlt' : (j : Int) < 12 := by omega
   have hgmj := hG.gm
   have hwj : IntKind.i64.wrap ((j : Int) + 1) = (j : Int) + 1 := IntWalk.i64_in _ (by omega)
   have hbx := hbX (j + 1) (by omega)
   have hby := hbY (j + 1) (by omega)
   go_wp2_with fail
   refine wp_region_late [] (fun w9 => GR w w9 m.sn sb so m.sc (w.heap.size + 1 + 1 + 1) b1 o1 c1 (w.heap.size + 1 + 1 + 1 + 1 + 1) ((j + 1) * 40401) w.heap.size w3.heap.size m.SX m.SY HX HY r L Q 162 (.slice va l.length vc) l.length (sgCells l)) (fun w9 => True) (by kernel_rfl) ?_ (fun hHeld => ?_)
   ·(exact ⟨(GR.mono ⟨hG, hrow⟩ (by omega)).below (Below.refl _ _).drew, trivial⟩)
   refine tk2 0 rfl (by (intro w9 hSw; have q0 := hSw.ga.t0; have q1 := hSw.ga.t1; have q2 := hSw.ga.t2; clear hSw; go_simp) <;> with_reducible rfl) hHeld ?_
   refine tk0 1 (.agg L.toArray) rfl (yieldsIf_load_mid (by rfl) 93 _ rfl w.heap.size 0 rfl L _ (fun w9 hSw => hSw.ga.st.c) Tryz.underlying93 rfl hiL) hHeld ?_
   (try simp only [Act.put, xpA, xpZ, xpS])
   refine tk1 2 rfl hHeld ?_
   refine rd1 3 rfl (fun K hK => ?_)
   go_simp
   (go_at_call 52; with_reducible refine (hat j _ hlt).mono ?_; rintro e w5 ⟨rfl, hb5⟩)
   refine hK.out _ _ ?_ (fun hHeld => ?_)
   ·(exact ⟨hHeld.1.below hb5, trivial⟩)
   clear hK K
   (try simp only [Act.put, xpA, xpZ, xpS])
   refine rd1 4 rfl (fun K hK => ?_)
   go_simp
   have hG5 := hHeld.1.ga
   have hgm5 := hgmj.below ((Below.refl _ _).drew.trans hb5) hgmj.lt
   (go_at_call 51; refine (callsIn_wide.1 (passing_in (.slice (some ⟨sb, so, none⟩) m.sn m.sc) (.func (.func 91) #[] #[.pointer (some ⟨w.heap.size + 1 + 1 + 1, 0, none⟩)]) (w.heap.size + 1 + 1 + 1 + 1 + 1) (j * 40401) 3 Q _ _ _ _ w5 hbx.1 hbx.2.1 hby.1 hby.2.1 hbx.2.2 hby.2.2 hgm5.lt hgm5 (by omega) (by omega) (fun W jj x y hg hgm hjj hx hy => by
    rw [← hQ.down] at hgm ⊢
    exact doesA_any m.sn sb so m.sc (w.heap.size + 1 + 1 + 1) b1 o1 c1 (w.heap.size + 1 + 1 + 1 + 1 + 1) jj m.SX m.SY HX HY r x y hx hy W (hG5.tg.grown hg hG5.ls hG5.l1 hG5.lc) hgm hjj hG5.ls hG5.l1 hG5.lc))).mono ?_; rintro e w6 ⟨pa, pn, pc, rfl, hpn, hpz, hg6, hgr6⟩)
   refine hK.out _ _ ?_ (fun hHeld => ?_)
   ·(exact ⟨GR.grown ⟨hG5, hHeld.1.row⟩ hgr6 (hg6.mono (by omega)), trivial⟩)
   clear hK K
   (try simp only [Act.put, xpA, xpZ, xpS])
   refine tk1 5 rfl hHeld ?_
   refine wpAnyP_done (by kernel_rfl) ?_ _
   (try simp only [Act.put, List.getElem_toArray, List.getElem_cons_zero, List.getElem_cons_succ, xpA, xpZ, xpS])
   have hR9 := PLift.up hHeld.1
   have hV9 := PLift.up hpz
   clear hHeld hpz
   by_cases hp0 : pn = 0
   ·obtain rfl := hp0
    have hno := blanksTo_no ((hsg (j + 1) (by omega)).2 (hV9.down.1 rfl))
    go_wp2
    go_roundw
    case rel => exact ⟨j + 1, l, by omega, by go_num, hR9.down.ga, hR9.down.row, by rw [hno]; exact hlm⟩
    case measure => simp [intOf]; omega
   ·have hpos : (0 : Int) < (pn : Int) := by omega
    have hyes : sg (j + 1) = true := by
     cases hs : sg (j + 1) with
     | true => rfl
     | false => exact absurd (hV9.down.2 ((hsg (j + 1) (by omega)).1 hs)) hp0
    have hll := blanksTo_length sg j
    rw [← hlm, List.length_map] at hll
    have hrw := hR9.down.row
    go_wp2_with (at_builtin; refine wpList_append_own _ rfl _ _ 159 rfl (w3.heap.size + 1) 162 i0 (.agg #[.int .i64 0, .slice none 0 0]) 2 32 Tryz.underlying159 hi hz0 hz1 hz2 rfl (by decide) _ l.length _ rfl (hrw.alloc _) ⟨w6.heap.size, 0, none⟩ 1 1 [.int .i64 ((j : Int) + 1), .slice pa pn pc] rfl rfl ?c1 ?c2 ?c3 ?c4 ?c5 ?_)
    case c1 => exact cells_two w6 _ _ _
    case c2 => simp [Value.oneCell']
    case c3 => unfold maxLen; omega
    case c4 => omega
    case c5 => have := hR9.down.ga.big; rw [World.size_alloc]; omega
    intro v4 w4 hown4 hgrow4 _
    have hP := hR9.down.push _ hgrow4 hown4
    clear hgrow4 hown4 hrw hR9
    go_wp2
    go_roundw
    case rel => exact ⟨j + 1, l ++ [(j + 1, pa, pn, pc)], by omega, by go_num, hP.ga, by rw [sgCells_push, List.length_append]; exact hP.row, by rw [blanksTo_yes hyes, List.map_append, hlm]; rfl⟩
    case measure => simp [intOf]; omega
  ·obtain rfl : j = 12 := by omega
   have hO9 := hG.old
   have hw9 := hG.lw
   have hl9 := hG.lt
   have hrow9 := PLift.up hrow
   clear hG hrow
   go_wp2
   refine bodyPost_ret (v := .slice va l.length vc) (by simp [results, Tryz.results90, go_sem]) rfl ⟨l, _, rfl, hrow9.down.mono (by omega), hlm, hO9⟩
end Go.Proofs.YtjhpklolpmaopaaGreatDoor
namespace Go.Proofs.YtjhpklolpmaopaaGreatDoor
open Go.RowKit
/-- the cells of a list of blanks. -/
def iCells (l : List Nat) : List Value := l.map fun k => .int .i64 ((k : Nat) : Int)
theorem infoInt : (Tryz.prog.info? 3).map (fun i => (i.zero, i.size, i.bytes)) = some (some (.int .i64 0), 1, 8) := by kernel_rfl
set_option maxRecDepth 100000 in
set_option maxHeartbeats 2000000 in
theorem could_any (m : Mach) (L : List Value) (EX EY : Nat → Int × Int) (b1 o1 c1 sb so : Nat) (r : Int) (HX HY : Nat → Int) (sg : Nat → Bool) (w : World)
  (hsa : m.sa = some ⟨sb, so, none⟩) (hLm : ∀ (j : Nat) (u : Value), m.cells[j]? = some u → L[j]? = some u)
  (hat : ∀ (j : Nat) (W : World), j < 12 → Calls Tryz.prog 52 #[.agg L.toArray, .int .i64 ((j : Int) + 1)] W fun e w' => e = .returned (.agg #[.int .i64 (EX (j + 1)).1, .int .i64 (EX (j + 1)).2, .int .i64 (EY (j + 1)).1, .int .i64 (EY (j + 1)).2]) ∧ Below W.heap.size W w')
  (hlL : L.length = 62) (pS : Pts w sb so m.sn m.SX m.SY) (p1 : Pts w b1 o1 m.sn HX HY) (lsb : sb < w.heap.size) (l1 : b1 < w.heap.size) (q3 : 0 ≤ r) (q4 : r ≤ 6) (q1 : 2 ≤ m.sn) (q2 : m.sn ≤ 4)
  (hsS : ∀ i, i < m.sn → (-20 ≤ m.SX i ∧ m.SX i ≤ 20) ∧ (-20 ≤ m.SY i ∧ m.SY i ≤ 20)) (hsH : ∀ i, i < m.sn → small (HX i, HY i))
  (hbX : ∀ k, k ≤ 12 → -48 ≤ (EX k).1 ∧ (EX k).2 ≤ 48 ∧ (EX k).1 ≤ 1000) (hbY : ∀ k, k ≤ 12 → -48 ≤ (EY k).1 ∧ (EY k).2 ≤ 48 ∧ (EY k).1 ≤ 1000)
  (hsg : ∀ k, k ≤ 12 → (sg k = false ↔ ∀ x y, InBox (EX k).1 (EX k).2 (EY k).1 (EY k).2 x y → agreeB m.sn HX HY m.SX m.SY r x y = false)) :
  Calls Tryz.prog 48 #[.agg L.toArray, .agg #[.slice (some ⟨b1, o1, none⟩) m.sn c1, .int .i64 r]] w fun e w' => ∃ v : Value, e = .returned v ∧ w'.ownsRow w.heap.size 3 1 v (blanksTo sg 12).length (iCells (blanksTo sg 12)) ∧ Below w.heap.size w w' := by
 obtain ⟨i0, hi, hz0, hz1, hz2⟩ := info_parts infoInt
 have hi0 : (Tryz.prog.info? 93).map (·.size) = some 62 := by kernel_rfl
 have hiL : (Tryz.prog.info? 93).map (·.size) = some L.length := by rw [hlL]; exact hi0
 obtain ⟨W0, hW0⟩ : ∃ W0, (w.alloc (Obj.cells L.toArray 93)).alloc (Obj.cells #[.slice (some ⟨b1, o1, none⟩) m.sn c1, .int .i64 r] 41) = W0 := ⟨_, rfl⟩
 have hs0 : W0.heap.size = w.heap.size + 1 + 1 := by rw [← hW0, World.size_alloc, World.size_alloc]
 have hbA : Below (w.alloc (Obj.cells L.toArray 93)).heap.size (w.alloc (Obj.cells L.toArray 93)) W0 := by rw [← hW0]; exact (Below.refl _ _).alloc (Nat.le_refl _) _
 have hbW : Below w.heap.size w W0 := ((Below.refl _ _).alloc (Nat.le_refl _) _).trans (hbA.mono (by rw [World.size_alloc]; omega))
 have hS : SAt W0 w.heap.size L := (SAt.new w L 93).below hbA (by rw [World.size_alloc]; omega)
 have u0 : W0.cell? ⟨w.heap.size + 1, 0, none⟩ = some (.slice (some ⟨b1, o1, none⟩) m.sn c1) := by rw [← hW0]; have := cells_new (w.alloc (Obj.cells L.toArray 93)) #[.slice (some ⟨b1, o1, none⟩) m.sn c1, .int .i64 r] 41 (j := 0) rfl; rw [World.size_alloc] at this; exact this
 have u1 : W0.cell? ⟨w.heap.size + 1, 1, none⟩ = some (.int .i64 r) := by rw [← hW0]; have := cells_new (w.alloc (Obj.cells L.toArray 93)) #[.slice (some ⟨b1, o1, none⟩) m.sn c1, .int .i64 r] 41 (j := 1) rfl; rw [World.size_alloc] at this; exact this
 have hz := hbW.size
 have hsi := sightings_any m L EX EY b1 o1 c1 sb so r HX HY sg W0 hsa hLm hat hlL (pS.below hbW lsb) (p1.below hbW l1) (by omega) (by omega) q3 q4 q1 q2 hsS hsH hbX hbY hsg
 have hrg := hS.c
 go_enter Tryz.func48, Tryz.ntmps48
 go_wp2_with (first
  | (go_at_call 90; with_reducible refine hsi.mono ?_; rintro e w3 ⟨l, vs, rfl, hrow, hlm, hb3⟩; obtain ⟨va, vc, rfl⟩ := ownsRow_slice hrow)
  | (with_reducible refine wpList_load_mid rfl 93 _ rfl w.heap.size 0 rfl L _ hrg Tryz.underlying93 rfl hiL ?_))
 clear u0 u1 hsi hrg hS
 have hz3 := hb3.size
 have hO3 := hbW.trans (hb3.mono (by omega))
 have hll := blanksTo_length sg 12
 rw [← hlm, List.length_map] at hll
 replace hlm := PLift.up hlm
 clear hb3 hbA hbW hW0
 go_loopw [5, 12] (fun v i wr => ∃ j : Nat, j ≤ l.length ∧ i = .int .i64 j ∧ wr.ownsRow w3.heap.size 3 1 v j (iCells ((l.map (·.1)).take j)) ∧ Below w3.heap.size w3 wr) (fun _ i _ => l.length - (intOf i).toNat)
 case atStart => exact ⟨0, Nat.zero_le _, rfl, ⟨by simp [iCells], .inl ⟨rfl, by simp [iCells]⟩⟩, Below.refl _ _⟩
 case round =>
  obtain ⟨j, hj, rfl, hown, hbl⟩ := hrel
  obtain ⟨vb, vd, rfl⟩ := ownsRow_slice hown
  by_cases hlt : j < l.length
  ·have hlt' : (j : Int) < (l.length : Int) := by omega
   obtain ⟨g, c, e⟩ := ownsRow_pos (by omega) hrow
   cases e
   have hr1 := ownsRow_below hrow hbl
   have k0 := hr1.cellAt (j * 2) (by omega)
   have k1 := hr1.cellAt (j * 2 + 1) (by omega)
   rw [(sgCells_at l j hlt).1] at k0
   rw [(sgCells_at l j hlt).2] at k1
   have htk : iCells ((l.map (·.1)).take (j + 1)) = iCells ((l.map (·.1)).take j) ++ [.int .i64 (l[j]).1] := by
    unfold iCells
    rw [List.take_add_one, List.map_append]
    simp [hlt]
   generalize l[j] = p at k0 k1 htk
   obtain ⟨pb, pa, pn, pc⟩ := p
   dsimp only at k0 k1 htk
   have hbz := hbl.size
   go_wp2_with (at_builtin; refine wpList_append_own _ rfl _ _ 28 rfl w3.heap.size 3 i0 (.int .i64 0) 1 8 Tryz.underlying28 hi hz0 hz1 hz2 rfl (by decide) _ j _ rfl ((hown.alloc _).alloc _) ⟨wr.heap.size + 1, 0, none⟩ 1 1 [.int .i64 pb] rfl rfl ?c1 ?c2 ?c3 ?c4 ?c5 ?_)
   case c2 => simp [Value.oneCell']
   case c3 => unfold maxLen; omega
   case c4 => omega
   case c5 => (try simp only [World.size_alloc]); omega
   intro v4 w4 hown4 hgrow4 _
   have hb4 : Below w3.heap.size w3 w4 := ((hbl.alloc hbl.size _).alloc (by rw [World.size_alloc]; omega) _).grown hgrow4 (by rw [World.size_alloc, World.size_alloc]; omega) fun x hx => (hown.lt x hx).1
   rw [← htk] at hown4
   clear hgrow4 hown k0 k1 hr1 hbl
   go_wp2
   go_roundw
   case rel => exact ⟨j + 1, by omega, by go_num, hown4, hb4⟩
   case measure => simp [intOf]; omega
  ·obtain rfl : j = l.length := by omega
   have hfin : iCells ((l.map (·.1)).take l.length) = iCells (blanksTo sg 12) := by rw [← hlm.down, List.take_of_length_le (by simp)]
   have hnl : (blanksTo sg 12).length = l.length := by rw [← hlm.down, List.length_map]
   rw [hfin] at hown
   have hO9 := PLift.up hown
   have hb9 := hO3.trans (hbl.mono hO3.size)
   clear hown
   go_wp2
   refine bodyPost_ret (v := .slice vb l.length vd) (by simp [results, Tryz.results48, go_sem]) rfl ⟨_, rfl, by rw [hnl]; exact hO9.down.mono (by omega), hb9⟩
end Go.Proofs.YtjhpklolpmaopaaGreatDoor
