/- A part of the proof: see the last file. -/
import Derived.Test.YtppefjmllebacaaGreatDoorPaa
import Derived.Tactics
import Derived.Tactics2
import Derived.Defers
import Derived.Recover
import Derived.Test.YtppefjmllebacaaGreatDoorPak
import Derived.Test.YtppefjmllebacaaGreatDoorPaj
set_option linter.unusedVariables false
set_option linter.unusedSimpArgs false
set_option linter.unusedSectionVars false
namespace Go.Proofs.YtppefjmllebacaaGreatDoor
open Go.RowKit
theorem assert_reason (w : World) : (Instr.typeAssert (.iface 228 (.agg #[])) 20 183 true).run Tryz.prog w = .ok (.tuple #[.iface 228 (.agg #[]), .bool true]) w := by kernel_rfl
theorem assert_noreason (w : World) : (Instr.typeAssert .nilIface 20 183 true).run Tryz.prog w = .ok (.tuple #[.nilIface, .bool false]) w := by kernel_rfl
theorem method_impossible (w : World) : (method 390 228 (.agg #[]) "nacre/drill.errno").run Tryz.prog w = .ok (203, .agg #[]) w := by kernel_rfl
set_option maxRecDepth 100000 in
set_option maxHeartbeats 400000 in
theorem impossible_errno (w : World) :
    Calls Tryz.prog 203 #[.agg #[]] w fun e w' => e = .returned (.int .i64 7) ∧ w' = w.alloc (Obj.cells #[] 228) := by
  go_enter Tryz.func203, Tryz.ntmps203
  go_wp2
  go_ret
  exact ⟨rfl, rfl⟩
set_option maxRecDepth 100000 in
set_option maxHeartbeats 1000000 in
theorem catch_idle (p : Addr) (w : World) :
    CallsD Tryz.prog 105 #[.pointer (some p)] .returning w fun e u' w' => e = .returned (.tuple #[]) ∧ u' = .returning ∧ w' = w := by
  have ha := assert_noreason
  refine callsD_of_wpS Tryz.func105 rfl fun c₀ cs hu => ?_
  apply wpS_seq
  apply wpS_region
  simp [wpOpsS, go_sem, recoverD, hu, Tryz.ntmps105, Exit.thenS]
  refine wpS_of_wp ?_
  go_wp2_with (go_at_call 203; refine (impossible_errno _).mono ?_; rintro e w' ⟨rfl, rfl⟩)
  simp [bodyPostS, results, Tryz.results105]
  cases c₀
  simp_all
set_option maxRecDepth 100000 in
set_option maxHeartbeats 1000000 in
theorem catch_panicking (b : Nat) (x : Int) (older : List PanicEntry) (w : World) (hb : b < w.heap.size) (hc : w.cell? ⟨b, 0, none⟩ = some (.int .i64 x)) (hz : w.frozen? ⟨b, 0, none⟩ = false) :
    CallsD Tryz.prog 105 #[.pointer (some ⟨b, 0, none⟩)] (.panicking ({ v := .iface 228 (.agg #[]), recovered := false } :: older)) w fun e u' w' =>
      e = .returned (.tuple #[]) ∧ u' = .panicking ({ v := .iface 228 (.agg #[]), recovered := true } :: older) ∧ w' = (w.setCell ⟨b, 0, none⟩ (.int .i64 7)).alloc (Obj.cells #[] 228) := by
  have ha := assert_reason
  have hm := method_impossible
  have hc1 : (w.alloc (Obj.cells #[] 228)).cell? ⟨b, 0, none⟩ = some (.int .i64 x) := (((Below.refl _ w).alloc (Nat.le_refl _) _).cell (p := ⟨b, 0, none⟩) hb).trans hc
  have hz1 : (w.alloc (Obj.cells #[] 228)).frozen? ⟨b, 0, none⟩ = false := (((Below.refl _ w).alloc (Nat.le_refl _) _).frozen (p := ⟨b, 0, none⟩) hb).trans hz
  refine callsD_of_wpS Tryz.func105 rfl fun c₀ cs hu => ?_
  apply wpS_seq
  apply wpS_region
  simp [wpOpsS, go_sem, recoverD, hu, Tryz.ntmps105, Exit.thenS]
  refine wpS_of_wp ?_
  go_wp2_with (go_at_call 203; refine (impossible_errno _).mono ?_; rintro e w' ⟨rfl, rfl⟩)
  simp [bodyPostS, results, Tryz.results105]
end Go.Proofs.YtppefjmllebacaaGreatDoor
namespace Go.Proofs.YtppefjmllebacaaGreatDoor
open Go.RowKit
set_option maxRecDepth 100000 in
set_option maxHeartbeats 4000000 in
theorem attempt_ok (g : Nat) (w : World) (R : World → Prop)
    (hdo : Calls Tryz.prog 79 #[.pointer (some ⟨g, 0, none⟩)] (w.alloc (Obj.cells #[.int .i64 0] 34)) fun e w' => e = .returned (.tuple #[]) ∧ w'.cell? ⟨w.heap.size, 0, none⟩ = some (.int .i64 0) ∧ w'.frozen? ⟨w.heap.size, 0, none⟩ = false ∧ R (w'.setCell ⟨w.heap.size, 0, none⟩ (.int .i64 0))) :
    Calls Tryz.prog 69 #[.func (.func 79) #[] #[.pointer (some ⟨g, 0, none⟩)]] w fun e w' => e = .returned (.int .i64 0) ∧ R w' := by
  have hmf : ∀ (fn : Fn) (first cap : Array Value) (w : World), (Instr.makeFunc fn first cap).run Tryz.prog w = .ok (.func fn first cap) w := fun _ _ _ _ => rfl
  go_enter_defers Tryz.func69, Tryz.ntmps69
  go_wp2_with (go_at_call 79; with_reducible refine hdo.mono ?_; rintro e w2 ⟨rfl, c2, z2, hR⟩)
  have c3 : (w2.setCell ⟨w.heap.size, 0, none⟩ (.int .i64 0)).cell? ⟨w.heap.size, 0, none⟩ = some (.int .i64 0) := World.cell?_setCell_same' _ _ _ (by rw [c2]; rfl)
  generalize w2.setCell ⟨w.heap.size, 0, none⟩ (.int .i64 0) = w3 at c3 hR ⊢
  refine leaves_cons (f := 105) (args := #[.pointer (some ⟨w.heap.size, 0, none⟩)]) (by simp) (by simp [go_sem]) ?_
  refine (catch_idle ⟨w.heap.size, 0, none⟩ _).mono ?_
  rintro e u' w'' ⟨rfl, rfl, rfl⟩
  simp [Leaves, settle, results, Tryz.results69, go_sem, c3, hR]
set_option maxRecDepth 100000 in
set_option maxHeartbeats 4000000 in
theorem attempt_no (g : Nat) (w : World) (R : World → Prop)
    (hdo : Calls Tryz.prog 79 #[.pointer (some ⟨g, 0, none⟩)] (w.alloc (Obj.cells #[.int .i64 0] 34)) fun e w' => e = .panicked [{ v := .iface 228 (.agg #[]), recovered := false }] ∧ w.heap.size < w'.heap.size ∧ w'.cell? ⟨w.heap.size, 0, none⟩ = some (.int .i64 0) ∧ w'.frozen? ⟨w.heap.size, 0, none⟩ = false ∧ R ((w'.setCell ⟨w.heap.size, 0, none⟩ (.int .i64 7)).alloc (Obj.cells #[] 228))) :
    Calls Tryz.prog 69 #[.func (.func 79) #[] #[.pointer (some ⟨g, 0, none⟩)]] w fun e w' => e = .returned (.int .i64 7) ∧ R w' := by
  have hmf : ∀ (fn : Fn) (first cap : Array Value) (w : World), (Instr.makeFunc fn first cap).run Tryz.prog w = .ok (.func fn first cap) w := fun _ _ _ _ => rfl
  go_enter_defers Tryz.func69, Tryz.ntmps69
  go_wp2_with (go_at_call 79; with_reducible refine hdo.mono ?_; rintro e w2 ⟨rfl, hl, c2, z2, hR⟩)
  refine leaves_cons (f := 105) (args := #[.pointer (some ⟨w.heap.size, 0, none⟩)]) (by simp) (by simp [go_sem]) ?_
  refine (catch_panicking w.heap.size 0 [] _ hl c2 z2).mono ?_
  rintro e u' w'' ⟨rfl, rfl, rfl⟩
  have c3 : ((w2.setCell ⟨w.heap.size, 0, none⟩ (.int .i64 7)).alloc (Obj.cells #[] 228)).cell? ⟨w.heap.size, 0, none⟩ = some (.int .i64 7) := (((Below.refl _ (w2.setCell ⟨w.heap.size, 0, none⟩ (.int .i64 7))).alloc (Nat.le_refl _) _).cell (p := ⟨w.heap.size, 0, none⟩) (by rw [World.size_setCell]; exact hl)).trans (World.cell?_setCell_same' _ _ _ (by rw [c2]; rfl))
  generalize (w2.setCell ⟨w.heap.size, 0, none⟩ (.int .i64 7)).alloc (Obj.cells #[] 228) = w3 at c3 hR ⊢
  simp [Leaves, settle, results, Tryz.results69, go_sem, c3, hR]
end Go.Proofs.YtppefjmllebacaaGreatDoor
namespace Go.Proofs.YtppefjmllebacaaGreatDoor
open Go.RowKit
def zM : Mach := ⟨none, 0, 0, fun _ => 0, fun _ => 0, 0, 0, 0, 0, 0, 0, 0, 0, none, 0, 0, fun _ => 0, fun _ => 0, fun _ => 0, fun _ => 0⟩
/-- the cells of a studied machine of which nothing is known. -/
def zst : List Value := zM.st zero26 zero26
theorem frozen_of_block {W W' : World} {b : Nat} (h : W'.heap[b]? = W.heap[b]?) (i : Nat) : W'.frozen? ⟨b, i, none⟩ = W.frozen? ⟨b, i, none⟩ := by unfold World.frozen?; rw [h]
/-- what stands after the closure was run, in whatever way. -/
structure Left (w0 W1 w' : World) : Prop where
  old : Below w0.heap.size w0 w'
  lt : W1.heap.size < w'.heap.size
  kept : ∀ b, b < W1.heap.size → w'.heap[b]? = W1.heap[b]?
theorem attempt_can (m : Mach) (w0 W1 W2 : World) (hok : m.ok = true) (h : MIn w0 m) (hB : Below w0.heap.size w0 W1) (hB2 : Below w0.heap.size w0 W2) (hS : SAt W2 W1.heap.size (m.st zero26 zero26)) (hz2 : W2.heap.size = W1.heap.size + 1) (hk2 : ∀ b, b < W1.heap.size → W2.heap[b]? = W1.heap[b]?) (hX : m.axX.can) (hY : m.axY.can) :
    Calls Tryz.prog 69 #[.func (.func 79) #[] #[.pointer (some ⟨W1.heap.size, 0, none⟩)]] W2 fun e w' => e = .returned (.int .i64 0) ∧ (SAt w' W1.heap.size (m.st (crsL m.axX.ends 13) (crsL m.axY.ends 13)) ∧ Left w0 W1 w') := by
  refine attempt_ok W1.heap.size W2 (fun w' => SAt w' W1.heap.size (m.st (crsL m.axX.ends 13) (crsL m.axY.ends 13)) ∧ Left w0 W1 w') ?_
  have hb3 : Below W2.heap.size W2 (W2.alloc (Obj.cells #[.int .i64 0] 34)) := (Below.refl _ _).alloc (Nat.le_refl _) _
  have c3 : (W2.alloc (Obj.cells #[.int .i64 0] 34)).cell? ⟨W2.heap.size, 0, none⟩ = some (.int .i64 0) := cells_new W2 _ _ rfl
  have f3 : (W2.alloc (Obj.cells #[.int .i64 0] 34)).frozen? ⟨W2.heap.size, 0, none⟩ = false := by simp [go_sem]
  have hz3 : (W2.alloc (Obj.cells #[.int .i64 0] 34)).heap.size = W2.heap.size + 1 := World.size_alloc _ _
  generalize W2.alloc (Obj.cells #[.int .i64 0] 34) = W3 at *
  have hB3 : Below w0.heap.size w0 W3 := hB2.trans (hb3.mono hB2.size)
  refine (examine1_can m W1.heap.size w0 W3 hok h hB3 hB.size (by omega) (hS.below hb3 (by omega)) hX hY).mono ?_
  rintro e w' ⟨rfl, hS', hB', hz', hk'⟩
  have hblk := hk' W2.heap.size (by omega) (by omega)
  refine ⟨rfl, (World.cell?_of_block hblk).trans c3, (frozen_of_block hblk 0).trans f3, hS'.far (Below.heap_setCell w' ⟨W2.heap.size, 0, none⟩ _ W1.heap.size (by show W1.heap.size ≠ W2.heap.size; omega)), hB'.setCell (p := ⟨W2.heap.size, 0, none⟩) (by have := hB2.size; exact this) _, by rw [World.size_setCell]; omega, fun b hb => ?_⟩
  rw [Below.heap_setCell w' ⟨W2.heap.size, 0, none⟩ _ b (by show b ≠ W2.heap.size; omega), hk' b (by omega) (by omega), hb3.block b (by omega), hk2 b hb]
theorem attempt_rule (m : Mach) (w0 W1 W2 : World) (hok : m.ok = true) (h : MIn w0 m) (hB : Below w0.heap.size w0 W1) (hB2 : Below w0.heap.size w0 W2) (hS : SAt W2 W1.heap.size (m.st zero26 zero26)) (hz2 : W2.heap.size = W1.heap.size + 1) (hk2 : ∀ b, b < W1.heap.size → W2.heap[b]? = W1.heap[b]?) (hno : ¬ (m.axX.can ∧ m.axY.can)) :
    Calls Tryz.prog 69 #[.func (.func 79) #[] #[.pointer (some ⟨W1.heap.size, 0, none⟩)]] W2 fun e w' => e = .returned (.int .i64 7) ∧ Left w0 W1 w' := by
  refine attempt_no W1.heap.size W2 (fun w' => Left w0 W1 w') ?_
  have hb3 : Below W2.heap.size W2 (W2.alloc (Obj.cells #[.int .i64 0] 34)) := (Below.refl _ _).alloc (Nat.le_refl _) _
  have c3 : (W2.alloc (Obj.cells #[.int .i64 0] 34)).cell? ⟨W2.heap.size, 0, none⟩ = some (.int .i64 0) := cells_new W2 _ _ rfl
  have f3 : (W2.alloc (Obj.cells #[.int .i64 0] 34)).frozen? ⟨W2.heap.size, 0, none⟩ = false := by simp [go_sem]
  have hz3 : (W2.alloc (Obj.cells #[.int .i64 0] 34)).heap.size = W2.heap.size + 1 := World.size_alloc _ _
  generalize W2.alloc (Obj.cells #[.int .i64 0] 34) = W3 at *
  have hB3 : Below w0.heap.size w0 W3 := hB2.trans (hb3.mono hB2.size)
  have key : Calls Tryz.prog 79 #[.pointer (some ⟨W1.heap.size, 0, none⟩)] W3 fun e w' => e = .panicked [{ v := .iface 228 (.agg #[]), recovered := false }] ∧ Below w0.heap.size w0 w' ∧ W3.heap.size ≤ w'.heap.size ∧ (∀ b, b < W3.heap.size → b ≠ W1.heap.size → w'.heap[b]? = W3.heap[b]?) := by
    by_cases hX : m.axX.can
    · exact examine1_noY m W1.heap.size w0 W3 hok h hB3 hB.size (by omega) (hS.below hb3 (by omega)) hX fun hY => hno ⟨hX, hY⟩
    · exact examine1_noX m W1.heap.size w0 W3 hok h hB3 hB.size (by omega) (hS.below hb3 (by omega)) hX
  refine key.mono ?_
  rintro e w' ⟨rfl, hB', hz', hk'⟩
  have hblk := hk' W2.heap.size (by omega) (by omega)
  have hBs : Below w0.heap.size w0 (w'.setCell ⟨W2.heap.size, 0, none⟩ (.int .i64 7)) := hB'.setCell (p := ⟨W2.heap.size, 0, none⟩) (by have := hB2.size; exact this) _
  refine ⟨rfl, by omega, (World.cell?_of_block hblk).trans c3, (frozen_of_block hblk 0).trans f3, hBs.alloc hBs.size _, by rw [World.size_alloc, World.size_setCell]; omega, fun b hb => ?_⟩
  rw [((Below.refl (w'.setCell ⟨W2.heap.size, 0, none⟩ (.int .i64 7)).heap.size _).alloc (Nat.le_refl _) _).block b (by rw [World.size_setCell]; omega), Below.heap_setCell w' ⟨W2.heap.size, 0, none⟩ _ b (by show b ≠ W2.heap.size; omega), hk' b (by omega) (by omega), hb3.block b (by omega), hk2 b hb]
end Go.Proofs.YtppefjmllebacaaGreatDoor
namespace Go.Proofs.YtppefjmllebacaaGreatDoor
open Go.RowKit
/-- many cells written into a row of as many: the row is they. -/
theorem SAt.fill {W : World} {g : Nat} {L L' : List Value} (h : SAt W g L) (hl : L'.length = L.length) : SAt (W.setCells g 0 L') g L' := by
  have h' : SAt W g ([] ++ (L ++ [])) := by simpa using h
  have := SAt.put (B' := L') h' hl
  simpa using this
set_option maxRecDepth 100000 in
set_option maxHeartbeats 4000000 in
theorem examine_ok (m : Mach) (w : World) (hs : m.sn ≤ 1000) (hr : m.rn ≤ 9223372036854775807) (h : MIn w m) (hok : m.ok = true) (hX : m.axX.can) (hY : m.axY.can) :
    Calls Tryz.prog 37 #[m.val, .bool true] w fun e w' => e = .returned (.tuple #[.agg (m.st (crsL m.axX.ends 13) (crsL m.axY.ends 13)).toArray, .int .i64 0]) ∧ Below w.heap.size w w' := by
  have hmf : ∀ (fn : Fn) (first cap : Array Value) (w : World), (Instr.makeFunc fn first cap).run Tryz.prog w = .ok (.func fn first cap) w := fun _ _ _ _ => rfl
  have hb1 : ∀ w, (Instr.build 83 #[(0, .agg #[.slice m.sa m.sn m.sc, .int .i64 m.c0, .int .i64 m.c1, .int .i64 m.d0, .int .i64 m.d1, .int .i64 m.w0, .int .i64 m.w1, .int .i64 m.v0, .int .i64 m.v1, .slice m.ra m.rn m.rc])]).run Tryz.prog w = .ok (.agg (m.st zero26 zero26).toArray) w := fun w => by kernel_rfl
  have hb2 : ∀ w, (Instr.build 83 #[]).run Tryz.prog w = .ok (.agg zst.toArray) w := fun w => by kernel_rfl
  have hal : (#[.slice none 0 0, .int .i64 0, .int .i64 0, .int .i64 0, .int .i64 0, .int .i64 0, .int .i64 0, .int .i64 0, .int .i64 0, .slice none 0 0, .int .i64 0, .int .i64 0, .int .i64 0, .int .i64 0, .int .i64 0, .int .i64 0, .int .i64 0, .int .i64 0, .int .i64 0, .int .i64 0, .int .i64 0, .int .i64 0, .int .i64 0, .int .i64 0, .int .i64 0, .int .i64 0, .int .i64 0, .int .i64 0, .int .i64 0, .int .i64 0, .int .i64 0, .int .i64 0, .int .i64 0, .int .i64 0, .int .i64 0, .int .i64 0, .int .i64 0, .int .i64 0, .int .i64 0, .int .i64 0, .int .i64 0, .int .i64 0, .int .i64 0, .int .i64 0, .int .i64 0, .int .i64 0, .int .i64 0, .int .i64 0, .int .i64 0, .int .i64 0, .int .i64 0, .int .i64 0, .int .i64 0, .int .i64 0, .int .i64 0, .int .i64 0, .int .i64 0, .int .i64 0, .int .i64 0, .int .i64 0, .int .i64 0, .int .i64 0] : Array Value) = zst.toArray := rfl
  have hset : (((((((((zst.set 0 (.slice m.sa m.sn m.sc)).set 1 (.int .i64 m.c0)).set 2 (.int .i64 m.c1)).set 3 (.int .i64 m.d0)).set 4 (.int .i64 m.d1)).set 5 (.int .i64 m.w0)).set 6 (.int .i64 m.w1)).set 7 (.int .i64 m.v0)).set 8 (.int .i64 m.v1)).set 9 (.slice m.ra m.rn m.rc) = m.st zero26 zero26 := rfl
  have hZ0 := fun (W : World) => SAt.new W zst 83
  have hcan := fun (W1 W2 : World) hB hB2 hS hz2 hk2 => attempt_can m w W1 W2 hok h hB hB2 hS hz2 hk2 hX hY
  have hl0 := m.st_length (X := zero26) (Y := zero26) rfl rfl
  have hlz : zst.length = 62 := zM.st_length rfl rfl
  have hoz := all_oneCell_toArray (zM.st_one zero26_one zero26_one)
  have ho0 := all_oneCell_toArray (m.st_one zero26_one zero26_one)
  have hi0 : (Tryz.prog.info? 83).map (·.size) = some 62 := by kernel_rfl
  have hia : (Tryz.prog.info? 83).map (·.size) = some (m.st zero26 zero26).toArray.size := by rw [List.size_toArray, hl0]; exact hi0
  have hiz : (Tryz.prog.info? 83).map (·.size) = some zst.toArray.size := by rw [List.size_toArray, hlz]; exact hi0
  have htz := fun (W : World) (g : Nat) (H : SAt W g zst) => H.there 0 (m.st zero26 zero26).toArray.size (by rw [List.size_toArray, hl0, hlz]; omega)
  have hfz := fun (W : World) (g : Nat) (H : SAt W g zst) => SAt.fill (L' := m.st zero26 zero26) H (by rw [hl0, hlz])
  change Array.all zst.toArray _ = true at hoz
  generalize m.st zero26 zero26 = L0 at *
  obtain ⟨W0, hW⟩ : ∃ W0, w.alloc (.cells #[.slice m.sa m.sn m.sc, .int .i64 m.c0, .int .i64 m.c1, .int .i64 m.d0, .int .i64 m.d1, .int .i64 m.w0, .int .i64 m.w1, .int .i64 m.v0, .int .i64 m.v1, .slice m.ra m.rn m.rc] 27) = W0 := ⟨_, rfl⟩
  have hb0 : Below w.heap.size w W0 := by rw [← hW]; exact (Below.refl _ _).alloc (Nat.le_refl _) _
  have hsz : W0.heap.size = w.heap.size + 1 := by rw [← hW, World.size_alloc]
  have hMA : MAt W0 w.heap.size m := by rw [← hW]; exact MAt.new w m
  have hR0 := hZ0 W0
  rw [hsz] at hR0
  have hism := fun (W : World) (hB : Below w.heap.size w W) => isMachine_any m W hs hr (h.below hB)
  rw [hok] at hism
  obtain ⟨q0, q1, q2, q3, q4, q5, q6, q7, q8, q9⟩ := (show MAt W0 w.heap.size m from hMA)
  clear hi0 hb1 hb2
  generalize zst = Z at *
  go_enter Tryz.func37, Tryz.ntmps37
  go_wp2_with (first
    | (go_at_call 39; with_reducible refine (hism _ (hb0.alloc hb0.size _)).mono ?_; rintro e w1 ⟨rfl, hb1'⟩; have hs1 := hb1'.size; rw [World.size_alloc] at hs1; have hB1 := (hb0.alloc hb0.size _).trans (hb1'.mono (by rw [World.size_alloc]; omega)); have hMB1 := (hMA.below ((Below.refl W0.heap.size W0).alloc (Nat.le_refl _) _) (by omega)).below hb1' (by rw [World.size_alloc]; omega); obtain ⟨r0, r1, r2, r3, r4, r5, r6, r7, r8, r9⟩ := hMB1; have hR1 := hR0.below hb1' (by rw [World.size_alloc]; omega); clear hb1')
    | (with_reducible refine wpList_store_mid rfl 83 _ _ rfl w1.heap.size 0 L0.toArray rfl rfl (htz _ _ (hZ0 w1)) hia ho0 ?_))
  have hS2 := hfz _ _ (hZ0 w1)
  have hB2 := below_setCells hB1.size L0 0 _ (hB1.alloc hB1.size (Obj.cells Z.toArray 83))
  have hz2 : ((w1.alloc (Obj.cells Z.toArray 83)).setCells w1.heap.size 0 L0).heap.size = w1.heap.size + 1 := by rw [size_setCells, World.size_alloc]
  have hk2 : ∀ b, b < w1.heap.size → ((w1.alloc (Obj.cells Z.toArray 83)).setCells w1.heap.size 0 L0).heap[b]? = w1.heap[b]? := fun b hb => by
    rw [World.heap_setCells_other _ w1.heap.size 0 L0 (by rw [World.size_alloc]; omega) (by omega)]
    exact ((Below.refl w1.heap.size w1).alloc (Nat.le_refl _) _).block b hb
  refine (hcan w1 _ hB1 hB2 hS2 hz2 hk2).mono ?_
  rintro e w2 ⟨rfl, hS3, hL3⟩
  have hll : (m.st (crsL m.axX.ends 13) (crsL m.axY.ends 13)).length = 62 := m.st_length (crsL_length _ 13) (crsL_length _ 13)
  have hlo := all_oneCell_toArray (m.st_one (crsL_one m.axX.ends 13) (crsL_one m.axY.ends 13))
  clear hcan
  generalize hLL : m.st (crsL m.axX.ends 13) (crsL m.axY.ends 13) = L at *
  have hi0 : (Tryz.prog.info? 83).map (·.size) = some 62 := by kernel_rfl
  have hiL : (Tryz.prog.info? 83).map (·.size) = some L.length := by rw [hll]; exact hi0
  have hiA : (Tryz.prog.info? 83).map (·.size) = some L.toArray.size := by rw [List.size_toArray]; exact hiL
  have hrg := hS3.c
  have hR2 : SAt w2 (w.heap.size + 1) Z := hR1.far (hL3.kept _ (by omega))
  have hth := hR2.there 0 L.toArray.size (by rw [List.size_toArray, hll, hlz]; omega)
  have hR3 := SAt.fill (L' := L) hR2 (by rw [hll, hlz])
  have hB3 := below_setCells (b := w.heap.size + 1) (Nat.le_succ _) L 0 w2 hL3.old
  have hlast := run_loadVar_mid (P := Tryz.prog) _ (w.heap.size + 1) 0 83 L _ hR3.c Tryz.underlying83 rfl hiL
  clear hi0 hll hlz hl0 hia hiz hfz htz hZ0 hal hset hk2 hz2 hB2 hS2 hW hMA hism hR0 r0 r1 r2 r3 r4 r5 r6 r7 r8 r9 q0 q1 q2 q3 q4 q5 q6 q7 q8 q9
  go_wp2_with (first
    | (with_reducible refine wpList_load_mid rfl 83 _ rfl w1.heap.size 0 rfl L _ hrg Tryz.underlying83 rfl hiL ?_)
    | (with_reducible refine wpList_store_mid rfl 83 _ _ rfl (w.heap.size + 1) 0 L.toArray rfl rfl hth hiA hlo ?_))
  refine bodyPost_ret (v := .tuple #[.agg L.toArray, .int .i64 0]) (by simp [results, Tryz.results37, asAddr, hlast]) rfl ⟨by rw [hLL], hB3⟩
end Go.Proofs.YtppefjmllebacaaGreatDoor
namespace Go.Proofs.YtppefjmllebacaaGreatDoor
open Go.RowKit
set_option maxRecDepth 100000 in
set_option maxHeartbeats 4000000 in
theorem examine_rule (m : Mach) (w : World) (hs : m.sn ≤ 1000) (hr : m.rn ≤ 9223372036854775807) (h : MIn w m) (hok : m.ok = true) (hno : ¬ (m.axX.can ∧ m.axY.can)) :
    Calls Tryz.prog 37 #[m.val, .bool true] w fun e w' => e = .returned (.tuple #[.agg zst.toArray, .int .i64 7]) ∧ Below w.heap.size w w' := by
  have hmf : ∀ (fn : Fn) (first cap : Array Value) (w : World), (Instr.makeFunc fn first cap).run Tryz.prog w = .ok (.func fn first cap) w := fun _ _ _ _ => rfl
  have hb1 : ∀ w, (Instr.build 83 #[(0, .agg #[.slice m.sa m.sn m.sc, .int .i64 m.c0, .int .i64 m.c1, .int .i64 m.d0, .int .i64 m.d1, .int .i64 m.w0, .int .i64 m.w1, .int .i64 m.v0, .int .i64 m.v1, .slice m.ra m.rn m.rc])]).run Tryz.prog w = .ok (.agg (m.st zero26 zero26).toArray) w := fun w => by kernel_rfl
  have hb2 : ∀ w, (Instr.build 83 #[]).run Tryz.prog w = .ok (.agg zst.toArray) w := fun w => by kernel_rfl
  have hal : (#[.slice none 0 0, .int .i64 0, .int .i64 0, .int .i64 0, .int .i64 0, .int .i64 0, .int .i64 0, .int .i64 0, .int .i64 0, .slice none 0 0, .int .i64 0, .int .i64 0, .int .i64 0, .int .i64 0, .int .i64 0, .int .i64 0, .int .i64 0, .int .i64 0, .int .i64 0, .int .i64 0, .int .i64 0, .int .i64 0, .int .i64 0, .int .i64 0, .int .i64 0, .int .i64 0, .int .i64 0, .int .i64 0, .int .i64 0, .int .i64 0, .int .i64 0, .int .i64 0, .int .i64 0, .int .i64 0, .int .i64 0, .int .i64 0, .int .i64 0, .int .i64 0, .int .i64 0, .int .i64 0, .int .i64 0, .int .i64 0, .int .i64 0, .int .i64 0, .int .i64 0, .int .i64 0, .int .i64 0, .int .i64 0, .int .i64 0, .int .i64 0, .int .i64 0, .int .i64 0, .int .i64 0, .int .i64 0, .int .i64 0, .int .i64 0, .int .i64 0, .int .i64 0, .int .i64 0, .int .i64 0, .int .i64 0, .int .i64 0] : Array Value) = zst.toArray := rfl
  have hset : (((((((((zst.set 0 (.slice m.sa m.sn m.sc)).set 1 (.int .i64 m.c0)).set 2 (.int .i64 m.c1)).set 3 (.int .i64 m.d0)).set 4 (.int .i64 m.d1)).set 5 (.int .i64 m.w0)).set 6 (.int .i64 m.w1)).set 7 (.int .i64 m.v0)).set 8 (.int .i64 m.v1)).set 9 (.slice m.ra m.rn m.rc) = m.st zero26 zero26 := rfl
  have hZ0 := fun (W : World) => SAt.new W zst 83
  have hcan := fun (W1 W2 : World) hB hB2 hS hz2 hk2 => attempt_rule m w W1 W2 hok h hB hB2 hS hz2 hk2 hno
  have hl0 := m.st_length (X := zero26) (Y := zero26) rfl rfl
  have hlz : zst.length = 62 := zM.st_length rfl rfl
  have hoz := all_oneCell_toArray (zM.st_one zero26_one zero26_one)
  have ho0 := all_oneCell_toArray (m.st_one zero26_one zero26_one)
  have hi0 : (Tryz.prog.info? 83).map (·.size) = some 62 := by kernel_rfl
  have hia : (Tryz.prog.info? 83).map (·.size) = some (m.st zero26 zero26).toArray.size := by rw [List.size_toArray, hl0]; exact hi0
  have hiz : (Tryz.prog.info? 83).map (·.size) = some zst.toArray.size := by rw [List.size_toArray, hlz]; exact hi0
  have htz := fun (W : World) (g : Nat) (H : SAt W g zst) => H.there 0 (m.st zero26 zero26).toArray.size (by rw [List.size_toArray, hl0, hlz]; omega)
  have hfz := fun (W : World) (g : Nat) (H : SAt W g zst) => SAt.fill (L' := m.st zero26 zero26) H (by rw [hl0, hlz])
  change Array.all zst.toArray _ = true at hoz
  generalize m.st zero26 zero26 = L0 at *
  obtain ⟨W0, hW⟩ : ∃ W0, w.alloc (.cells #[.slice m.sa m.sn m.sc, .int .i64 m.c0, .int .i64 m.c1, .int .i64 m.d0, .int .i64 m.d1, .int .i64 m.w0, .int .i64 m.w1, .int .i64 m.v0, .int .i64 m.v1, .slice m.ra m.rn m.rc] 27) = W0 := ⟨_, rfl⟩
  have hb0 : Below w.heap.size w W0 := by rw [← hW]; exact (Below.refl _ _).alloc (Nat.le_refl _) _
  have hsz : W0.heap.size = w.heap.size + 1 := by rw [← hW, World.size_alloc]
  have hMA : MAt W0 w.heap.size m := by rw [← hW]; exact MAt.new w m
  have hR0 := hZ0 W0
  rw [hsz] at hR0
  have hism := fun (W : World) (hB : Below w.heap.size w W) => isMachine_any m W hs hr (h.below hB)
  rw [hok] at hism
  obtain ⟨q0, q1, q2, q3, q4, q5, q6, q7, q8, q9⟩ := (show MAt W0 w.heap.size m from hMA)
  clear hi0 hb1 hb2
  generalize hZZ : zst = Z at *
  clear hZZ
  go_enter Tryz.func37, Tryz.ntmps37
  go_wp2_with (first
    | (go_at_call 39; with_reducible refine (hism _ (hb0.alloc hb0.size _)).mono ?_; rintro e w1 ⟨rfl, hb1'⟩; have hs1 := hb1'.size; rw [World.size_alloc] at hs1; have hB1 := (hb0.alloc hb0.size _).trans (hb1'.mono (by rw [World.size_alloc]; omega)); have hMB1 := (hMA.below ((Below.refl W0.heap.size W0).alloc (Nat.le_refl _) _) (by omega)).below hb1' (by rw [World.size_alloc]; omega); obtain ⟨r0, r1, r2, r3, r4, r5, r6, r7, r8, r9⟩ := hMB1; have hR1 := hR0.below hb1' (by rw [World.size_alloc]; omega); clear hb1')
    | (with_reducible refine wpList_store_mid rfl 83 _ _ rfl w1.heap.size 0 L0.toArray rfl rfl (htz _ _ (hZ0 w1)) hia ho0 ?_))
  have hS2 := hfz _ _ (hZ0 w1)
  have hB2 := below_setCells hB1.size L0 0 _ (hB1.alloc hB1.size (Obj.cells Z.toArray 83))
  have hz2 : ((w1.alloc (Obj.cells Z.toArray 83)).setCells w1.heap.size 0 L0).heap.size = w1.heap.size + 1 := by rw [size_setCells, World.size_alloc]
  have hk2 : ∀ b, b < w1.heap.size → ((w1.alloc (Obj.cells Z.toArray 83)).setCells w1.heap.size 0 L0).heap[b]? = w1.heap[b]? := fun b hb => by
    rw [World.heap_setCells_other _ w1.heap.size 0 L0 (by rw [World.size_alloc]; omega) (by omega)]
    exact ((Below.refl w1.heap.size w1).alloc (Nat.le_refl _) _).block b hb
  refine (hcan w1 _ hB1 hB2 hS2 hz2 hk2).mono ?_
  rintro e w2 ⟨rfl, hL3⟩
  clear hcan
  have hi0 : (Tryz.prog.info? 83).map (·.size) = some 62 := by kernel_rfl
  have hiL : (Tryz.prog.info? 83).map (·.size) = some Z.length := by rw [hlz]; exact hi0
  have hR2 : SAt w2 (w.heap.size + 1) Z := hR1.far (hL3.kept _ (by omega))
  have hth := hR2.there 0 Z.toArray.size (by rw [List.size_toArray, hlz]; omega)
  have hR3 := SAt.fill (L' := Z) hR2 rfl
  have hB3 := below_setCells (b := w.heap.size + 1) (Nat.le_succ _) Z 0 w2 hL3.old
  have hlast := run_loadVar_mid (P := Tryz.prog) _ (w.heap.size + 1) 0 83 Z _ hR3.c Tryz.underlying83 rfl hiL
  clear hi0 hl0 hia hfz htz hZ0 hset hk2 hz2 hB2 hS2 hW hMA hism hR0 r0 r1 r2 r3 r4 r5 r6 r7 r8 r9 q0 q1 q2 q3 q4 q5 q6 q7 q8 q9
  go_wp2_with (first
    | (with_reducible refine wpList_store_mid rfl 83 _ _ rfl (w.heap.size + 1) 0 Z.toArray rfl rfl hth hiz hoz ?_))
  refine bodyPost_ret (v := .tuple #[.agg Z.toArray, .int .i64 7]) (by simp [results, Tryz.results37, asAddr, hlast]) rfl ⟨rfl, hB3⟩
set_option maxRecDepth 100000 in
set_option maxHeartbeats 4000000 in
theorem examine_arg (m : Mach) (fine : Bool) (w : World) (hs : m.sn ≤ 1000) (hr : m.rn ≤ 9223372036854775807) (h : MIn w m) (hno : (m.ok && fine) = false) :
    Calls Tryz.prog 37 #[m.val, .bool fine] w fun e w' => e = .returned (.tuple #[.agg zst.toArray, .int .i64 2]) ∧ Below w.heap.size w w' := by
  have hal : (#[.slice none 0 0, .int .i64 0, .int .i64 0, .int .i64 0, .int .i64 0, .int .i64 0, .int .i64 0, .int .i64 0, .int .i64 0, .slice none 0 0, .int .i64 0, .int .i64 0, .int .i64 0, .int .i64 0, .int .i64 0, .int .i64 0, .int .i64 0, .int .i64 0, .int .i64 0, .int .i64 0, .int .i64 0, .int .i64 0, .int .i64 0, .int .i64 0, .int .i64 0, .int .i64 0, .int .i64 0, .int .i64 0, .int .i64 0, .int .i64 0, .int .i64 0, .int .i64 0, .int .i64 0, .int .i64 0, .int .i64 0, .int .i64 0, .int .i64 0, .int .i64 0, .int .i64 0, .int .i64 0, .int .i64 0, .int .i64 0, .int .i64 0, .int .i64 0, .int .i64 0, .int .i64 0, .int .i64 0, .int .i64 0, .int .i64 0, .int .i64 0, .int .i64 0, .int .i64 0, .int .i64 0, .int .i64 0, .int .i64 0, .int .i64 0, .int .i64 0, .int .i64 0, .int .i64 0, .int .i64 0, .int .i64 0, .int .i64 0] : Array Value) = zst.toArray := rfl
  have hlz : zst.length = 62 := zM.st_length rfl rfl
  have hoz := all_oneCell_toArray (zM.st_one zero26_one zero26_one)
  change Array.all zst.toArray _ = true at hoz
  have hi0 : (Tryz.prog.info? 83).map (·.size) = some 62 := by kernel_rfl
  have hiz : (Tryz.prog.info? 83).map (·.size) = some zst.toArray.size := by rw [List.size_toArray, hlz]; exact hi0
  have hiL : (Tryz.prog.info? 83).map (·.size) = some zst.length := by rw [hlz]; exact hi0
  obtain ⟨W0, hW⟩ : ∃ W0, w.alloc (.cells #[.slice m.sa m.sn m.sc, .int .i64 m.c0, .int .i64 m.c1, .int .i64 m.d0, .int .i64 m.d1, .int .i64 m.w0, .int .i64 m.w1, .int .i64 m.v0, .int .i64 m.v1, .slice m.ra m.rn m.rc] 27) = W0 := ⟨_, rfl⟩
  have hb0 : Below w.heap.size w W0 := by rw [← hW]; exact (Below.refl _ _).alloc (Nat.le_refl _) _
  have hsz : W0.heap.size = w.heap.size + 1 := by rw [← hW, World.size_alloc]
  have hMA : MAt W0 w.heap.size m := by rw [← hW]; exact MAt.new w m
  have hR0 := SAt.new W0 zst 83
  rw [hsz] at hR0
  have hism := fun (W : World) (hB : Below w.heap.size w W) => isMachine_any m W hs hr (h.below hB)
  obtain ⟨q0, q1, q2, q3, q4, q5, q6, q7, q8, q9⟩ := (show MAt W0 w.heap.size m from hMA)
  clear hi0
  generalize hZZ : zst = Z at *
  cases hok : m.ok with
  | false =>
    rw [hok] at hism
    clear hok hno
    go_enter Tryz.func37, Tryz.ntmps37
    go_wp2_with (first
      | (go_at_call 39; with_reducible refine (hism _ (hb0.alloc hb0.size _)).mono ?_; rintro e w1 ⟨rfl, hb1'⟩; have hs1 := hb1'.size; rw [World.size_alloc] at hs1; have hB1 := (hb0.alloc hb0.size _).trans (hb1'.mono (by rw [World.size_alloc]; omega)); have hMB1 := (hMA.below ((Below.refl W0.heap.size W0).alloc (Nat.le_refl _) _) (by omega)).below hb1' (by rw [World.size_alloc]; omega); obtain ⟨r0, r1, r2, r3, r4, r5, r6, r7, r8, r9⟩ := hMB1; have hR1 := hR0.below hb1' (by rw [World.size_alloc]; omega); have hth := hR1.there 0 Z.toArray.size (by rw [List.size_toArray, hlz]; omega); clear hb1')
      | (with_reducible refine wpList_store_mid rfl 83 _ _ rfl (w.heap.size + 1) 0 Z.toArray rfl rfl hth hiz hoz ?_))
    have hR3 := SAt.fill (L' := Z) hR1 rfl
    have hB3 := below_setCells (b := w.heap.size + 1) (Nat.le_succ _) Z 0 w1 hB1
    have hlast := run_loadVar_mid (P := Tryz.prog) _ (w.heap.size + 1) 0 83 Z _ hR3.c Tryz.underlying83 rfl hiL
    refine bodyPost_ret (v := .tuple #[.agg Z.toArray, .int .i64 2]) (by simp [results, Tryz.results37, asAddr, hlast]) rfl ⟨rfl, hB3⟩
  | true =>
    rw [hok] at hism
    rw [hok, Bool.true_and] at hno
    subst hno
    clear hok
    go_enter Tryz.func37, Tryz.ntmps37
    go_wp2_with (first
      | (go_at_call 39; with_reducible refine (hism _ (hb0.alloc hb0.size _)).mono ?_; rintro e w1 ⟨rfl, hb1'⟩; have hs1 := hb1'.size; rw [World.size_alloc] at hs1; have hB1 := (hb0.alloc hb0.size _).trans (hb1'.mono (by rw [World.size_alloc]; omega)); have hMB1 := (hMA.below ((Below.refl W0.heap.size W0).alloc (Nat.le_refl _) _) (by omega)).below hb1' (by rw [World.size_alloc]; omega); obtain ⟨r0, r1, r2, r3, r4, r5, r6, r7, r8, r9⟩ := hMB1; have hR1 := hR0.below hb1' (by rw [World.size_alloc]; omega); have hth := hR1.there 0 Z.toArray.size (by rw [List.size_toArray, hlz]; omega); clear hb1')
      | (with_reducible refine wpList_store_mid rfl 83 _ _ rfl (w.heap.size + 1) 0 Z.toArray rfl rfl hth hiz hoz ?_))
    have hR3 := SAt.fill (L' := Z) hR1 rfl
    have hB3 := below_setCells (b := w.heap.size + 1) (Nat.le_succ _) Z 0 w1 hB1
    have hlast := run_loadVar_mid (P := Tryz.prog) _ (w.heap.size + 1) 0 83 Z _ hR3.c Tryz.underlying83 rfl hiL
    refine bodyPost_ret (v := .tuple #[.agg Z.toArray, .int .i64 2]) (by simp [results, Tryz.results37, asAddr, hlast]) rfl ⟨rfl, hB3⟩
end Go.Proofs.YtppefjmllebacaaGreatDoor
namespace Go.Proofs.YtppefjmllebacaaGreatDoor
open Go.RowKit
/-- the machine has a truth. -/
def Mach.can (m : Mach) : Prop := m.axX.can ∧ m.axY.can
/-- what examine finds: the cells, and the error. -/
structure Exam (m : Mach) (fine : Bool) (L : List Value) (er : Int) : Prop where
  arg : (m.ok && fine) = false → L = zst ∧ er = 2
  rule : (m.ok && fine) = true → ¬ m.can → L = zst ∧ er = 7
  ok : (m.ok && fine) = true → m.can → L = m.st (crsL m.axX.ends 13) (crsL m.axY.ends 13) ∧ er = 0
theorem Exam.er_ok {m : Mach} {fine : Bool} {L : List Value} {er : Int} (h : Exam m fine L er) : er = 0 ∨ er = 2 ∨ er = 7 := by
  cases hf : (m.ok && fine) with
  | false => exact .inr (.inl (h.arg hf).2)
  | true => exact (Classical.em m.can).elim (fun hc => .inl (h.ok hf hc).2) fun hc => .inr (.inr (h.rule hf hc).2)
theorem Exam.length {m : Mach} {fine : Bool} {L : List Value} {er : Int} (h : Exam m fine L er) : L.length = 62 := by
  cases hf : (m.ok && fine) with
  | false => rw [(h.arg hf).1]; exact zM.st_length rfl rfl
  | true => exact (Classical.em m.can).elim (fun hc => by rw [(h.ok hf hc).1]; exact m.st_length (crsL_length _ 13) (crsL_length _ 13)) fun hc => by rw [(h.rule hf hc).1]; exact zM.st_length rfl rfl
theorem Exam.one {m : Mach} {fine : Bool} {L : List Value} {er : Int} (h : Exam m fine L er) : ∀ v ∈ L, v.oneCell' = true := by
  have hz := zM.st_one zero26_one zero26_one
  cases hf : (m.ok && fine) with
  | false => rw [(h.arg hf).1]; exact hz
  | true => exact (Classical.em m.can).elim (fun hc => by rw [(h.ok hf hc).1]; exact m.st_one (crsL_one _ 13) (crsL_one _ 13)) fun hc => by rw [(h.rule hf hc).1]; exact hz
theorem examine_any (m : Mach) (fine : Bool) (w : World) (hs : m.sn ≤ 1000) (hr : m.rn ≤ 9223372036854775807) (h : MIn w m) :
    ∃ (L : List Value) (er : Int), Exam m fine L er ∧ ∀ W, Below w.heap.size w W → Calls Tryz.prog 37 #[m.val, .bool fine] W fun e w' => e = .returned (.tuple #[.agg L.toArray, .int .i64 er]) ∧ Below W.heap.size W w' := by
  cases hf : (m.ok && fine) with
  | false => exact ⟨zst, 2, ⟨fun _ => ⟨rfl, rfl⟩, (fun h => by rw [hf] at h; cases h), (fun h => by rw [hf] at h; cases h)⟩, fun W hW => examine_arg m fine W hs hr (h.below hW) hf⟩
  | true =>
    have hf' := hf
    rw [Bool.and_eq_true] at hf'
    obtain ⟨hok, rfl⟩ := hf'
    by_cases hc : m.can
    · exact ⟨_, 0, ⟨(fun h => by rw [hf] at h; cases h), fun _ h => absurd hc h, fun _ _ => ⟨rfl, rfl⟩⟩, fun W hW => examine_ok m W hs hr (h.below hW) hok hc.1 hc.2⟩
    · exact ⟨zst, 7, ⟨(fun h => by rw [hf] at h; cases h), fun _ _ => ⟨rfl, rfl⟩, fun _ h => absurd h hc⟩, fun W hW => examine_rule m W hs hr (h.below hW) hok hc⟩
/-- the error of a machine. -/
structure Able (m : Mach) (fine : Bool) (er : Int) : Prop where
  arg : (m.ok && fine) = false → er = 2
  rule : (m.ok && fine) = true → ¬ m.can → er = 7
  ok : (m.ok && fine) = true → m.can → er = 0
theorem Exam.able {m : Mach} {fine : Bool} {L : List Value} {er : Int} (h : Exam m fine L er) : Able m fine er := ⟨fun a => (h.arg a).2, fun a b => (h.rule a b).2, fun a b => (h.ok a b).2⟩
theorem Able.same {m : Mach} {fine : Bool} {a b : Int} (ha : Able m fine a) (hb : Able m fine b) : a = b := by
  cases hf : (m.ok && fine) with
  | false => rw [ha.arg hf, hb.arg hf]
  | true => exact (Classical.em m.can).elim (fun hc => by rw [ha.ok hf hc, hb.ok hf hc]) fun hc => by rw [ha.rule hf hc, hb.rule hf hc]
set_option maxRecDepth 100000 in
set_option maxHeartbeats 1000000 in
theorem Machine_any (m : Mach) (w : World) (hs : m.sn ≤ 1000) (hr : m.rn ≤ 9223372036854775807) (h : MIn w m) :
    ∃ er : Int, Able m true er ∧ ∀ W, Below w.heap.size w W → Calls Tryz.prog 8 #[m.val] W fun e w' => e = .returned (.int .i64 er) ∧ Below W.heap.size W w' := by
  obtain ⟨L, er, hE, hC⟩ := examine_any m true w hs hr h
  refine ⟨er, hE.able, fun W hW => ?_⟩
  obtain ⟨W0, hW0⟩ : ∃ W0, W.alloc (.cells #[.slice m.sa m.sn m.sc, .int .i64 m.c0, .int .i64 m.c1, .int .i64 m.d0, .int .i64 m.d1, .int .i64 m.w0, .int .i64 m.w1, .int .i64 m.v0, .int .i64 m.v1, .slice m.ra m.rn m.rc] 27) = W0 := ⟨_, rfl⟩
  have hb0 : Below W.heap.size W W0 := by rw [← hW0]; exact (Below.refl _ _).alloc (Nat.le_refl _) _
  have hMA : MAt W0 W.heap.size m := by rw [← hW0]; exact MAt.new W m
  have hCC := hC W0 (hW.trans (hb0.mono hW.size))
  obtain ⟨q0, q1, q2, q3, q4, q5, q6, q7, q8, q9⟩ := hMA
  have hal : (#[.slice none 0 0, .int .i64 0, .int .i64 0, .int .i64 0, .int .i64 0, .int .i64 0, .int .i64 0, .int .i64 0, .int .i64 0, .slice none 0 0, .int .i64 0, .int .i64 0, .int .i64 0, .int .i64 0, .int .i64 0, .int .i64 0, .int .i64 0, .int .i64 0, .int .i64 0, .int .i64 0, .int .i64 0, .int .i64 0, .int .i64 0, .int .i64 0, .int .i64 0, .int .i64 0, .int .i64 0, .int .i64 0, .int .i64 0, .int .i64 0, .int .i64 0, .int .i64 0, .int .i64 0, .int .i64 0, .int .i64 0, .int .i64 0, .int .i64 0, .int .i64 0, .int .i64 0, .int .i64 0, .int .i64 0, .int .i64 0, .int .i64 0, .int .i64 0, .int .i64 0, .int .i64 0, .int .i64 0, .int .i64 0, .int .i64 0, .int .i64 0, .int .i64 0, .int .i64 0, .int .i64 0, .int .i64 0, .int .i64 0, .int .i64 0, .int .i64 0, .int .i64 0, .int .i64 0, .int .i64 0, .int .i64 0, .int .i64 0] : Array Value) = zst.toArray := rfl
  have hlz : zst.length = 62 := zM.st_length rfl rfl
  have hlL := hE.length
  have hoL := all_oneCell_toArray hE.one
  have hi0 : (Tryz.prog.info? 83).map (·.size) = some 62 := by kernel_rfl
  have hiA : (Tryz.prog.info? 83).map (·.size) = some L.toArray.size := by rw [List.size_toArray, hlL]; exact hi0
  have hth := fun (W : World) => (SAt.new W zst 83).there 0 L.toArray.size (by rw [List.size_toArray, hlL, hlz]; omega)
  clear hi0 hE hC
  generalize zst = Z at *
  go_enter Tryz.func8, Tryz.ntmps8
  go_wp2_with (first
    | (go_at_call 37; with_reducible refine hCC.mono ?_; rintro e w1 ⟨rfl, hb1⟩)
    | (with_reducible refine wpList_store_mid rfl 83 _ _ rfl w1.heap.size 0 L.toArray rfl rfl (hth w1) hiA hoL ?_))
  go_ret
  have hb2 := hb0.trans (hb1.mono hb0.size)
  exact ⟨rfl, below_setCells hb2.size L 0 _ (hb2.alloc hb2.size _)⟩
end Go.Proofs.YtppefjmllebacaaGreatDoor
namespace Go.Proofs.YtppefjmllebacaaGreatDoor
open Go.RowKit
theorem rbounds_m (m : Mach) (hok : m.ok = true) : ∃ b : Bool, (b = true ↔ m.can) ∧ ∀ (v : Value) (W : World), MkSl W v m.rn m.mark → Calls Tryz.prog 50 #[m.val, v] W fun e w' => ∃ vx vy, e = .returned (.tuple #[vx, vy, .bool b]) ∧ (b = true → ∃ gx cx gy cy, vx = .slice (some ⟨gx, 0, none⟩) 13 cx ∧ vy = .slice (some ⟨gy, 0, none⟩) 13 cy ∧ W.heap.size ≤ gx ∧ W.heap.size ≤ gy ∧ gx < w'.heap.size ∧ gy < w'.heap.size ∧ CAt w' gx m.axX.ends ∧ CAt w' gy m.axY.ends) ∧ Below W.heap.size W w' := by
  by_cases hc : m.can
  · refine ⟨true, ⟨fun _ => hc, fun _ => rfl⟩, fun v W hm => ?_⟩
    obtain ⟨b, hb, hC⟩ := rbounds_any m v m.rn m.mark W (Mach.fineX hok) (Mach.fineY hok) hm
    obtain rfl : b = true := hb.2 hc
    exact hC
  · refine ⟨false, ⟨fun h => (by cases h), fun h => absurd h hc⟩, fun v W hm => ?_⟩
    obtain ⟨b, hb, hC⟩ := rbounds_any m v m.rn m.mark W (Mach.fineX hok) (Mach.fineY hok) hm
    obtain rfl : b = false := by
      cases b with
      | false => rfl
      | true => exact absurd (hb.1 rfl) hc
    exact hC
/-- a machine in a block of its own. -/
structure PoR (w : World) (m : Mach) (W : World) : Prop where
  mat : MAt W w.heap.size m
  old : Below w.heap.size w W
  big : w.heap.size < W.heap.size
theorem PoR.below {w : World} {m : Mach} {W W' : World} (h : PoR w m W) (hb : Below W.heap.size W W') : PoR w m W' :=
  ⟨h.mat.below hb h.big, h.old.trans (hb.mono h.old.size), Nat.lt_of_lt_of_le h.big hb.size⟩
structure PoK (w : World) (m : Mach) (W : World) : Prop where
  mat : MAt W w.heap.size m
  old : Below w.heap.size w W
  big : w.heap.size + 3 ≤ W.heap.size
theorem PoK.below {w : World} {m : Mach} {W W' : World} (h : PoK w m W) (hb : Below W.heap.size W W') : PoK w m W' :=
  have := h.big
  ⟨h.mat.below hb (by omega), h.old.trans (hb.mono h.old.size), Nat.le_trans h.big hb.size⟩
structure KcR (w : World) (m : Mach) (gx gy : Nat) (EX EY : Nat → Int × Int) (W : World) : Prop where
  cx : CAt W gx EX
  cy : CAt W gy EY
  old : Below w.heap.size w W
  big : w.heap.size + 3 ≤ W.heap.size
  nx : gx ≠ w.heap.size + 1 ∧ gx ≠ w.heap.size + 1 + 1
  ny : gy ≠ w.heap.size + 1 ∧ gy ≠ w.heap.size + 1 + 1
theorem KcR.put {w : World} {m : Mach} {gx gy : Nat} {EX EY : Nat → Int × Int} {W : World} (h : KcR w m gx gy EX EY W) {D : Nat} (h1 : w.heap.size + 1 ≤ D) (h2 : D ≤ w.heap.size + 2) (x y : Value) : KcR w m gx gy EX EY ((W.setCell ⟨D, 0, none⟩ x).setCell ⟨D, 1, none⟩ y) :=
  have a := h.nx
  have b := h.ny
  ⟨h.cx.far2 (by omega) _ _ _ _, h.cy.far2 (by omega) _ _ _ _, (h.old.setCell (p := ⟨D, 0, none⟩) (by show w.heap.size ≤ D; omega) _).setCell (p := ⟨D, 1, none⟩) (by show w.heap.size ≤ D; omega) _, by rw [World.size_setCell, World.size_setCell]; exact h.big, h.nx, h.ny⟩
set_option maxRecDepth 100000 in
set_option maxHeartbeats 4000000 in
theorem rpossible_b (m : Mach) (hok : m.ok = true) : ∃ b : Bool, (b = true ↔ m.can) ∧ ∀ w, MIn w m → Calls Tryz.prog 38 #[m.val] w fun e w' => e = .returned (.bool b) ∧ Below w.heap.size w w' := by
  obtain ⟨b, hb, hbounds⟩ := rbounds_m m hok
  refine ⟨b, hb, fun w h => ?_⟩
  obtain ⟨W0, hW⟩ : ∃ W0, w.alloc (.cells #[.slice m.sa m.sn m.sc, .int .i64 m.c0, .int .i64 m.c1, .int .i64 m.d0, .int .i64 m.d1, .int .i64 m.w0, .int .i64 m.w1, .int .i64 m.v0, .int .i64 m.v1, .slice m.ra m.rn m.rc] 27) = W0 := ⟨_, rfl⟩
  have hO : Below w.heap.size w W0 := by rw [← hW]; exact (Below.refl _ _).alloc (Nat.le_refl _) _
  have hM : MAt W0 w.heap.size m := by rw [← hW]; exact MAt.new w m
  have hsz : W0.heap.size = w.heap.size + 1 := by rw [← hW, World.size_alloc]
  have hP : PoR w m W0.drew := (⟨hM, hO, by omega⟩ : PoR w m W0).below (Below.refl _ _).drew
  have hmarks := fun (W : World) (hB : Below w.heap.size w W) => rmarks_any m W hok (h.below hB)
  clear hb
  go_enter Tryz.func38, Tryz.ntmps38
  go_wp2_with fail
  refine wp_region_late [] (fun w9 => PoR w m w9) (fun w9 => True) (by kernel_rfl) ?_ (fun hHeld => ?_)
  · (exact ⟨hP, trivial⟩)
  refine wpAnyP_take0 (i := 0) (v := ?_) rfl (by kernel_rfl) (by kernel_rfl) (by kernel_rfl) (by kernel_rfl) (by rfl) (fun _ _ _ h => h) (Or.inl ⟨by rfl, ?_⟩) hHeld ?_
  rotate_left 1
  · ((intro w9 hSw; obtain ⟨⟨q0, q1, q2, q3, q4, q5, q6, q7, q8, q9⟩, _, _⟩ := hSw; go_simp) <;> with_reducible rfl)
  (try simp only [Act.put, List.setIfInBounds_toArray, List.set_cons_zero, List.set_cons_succ])
  refine wpAnyP_take0 (i := 1) (v := ?_) rfl (by kernel_rfl) (by kernel_rfl) (by kernel_rfl) (by kernel_rfl) (by rfl) (fun _ _ _ h => h) (Or.inl ⟨by rfl, ?_⟩) hHeld ?_
  rotate_left 1
  · ((intro w9 hSw; obtain ⟨⟨q0, q1, q2, q3, q4, q5, q6, q7, q8, q9⟩, _, _⟩ := hSw; go_simp) <;> with_reducible rfl)
  (try simp only [Act.put, List.setIfInBounds_toArray, List.set_cons_zero, List.set_cons_succ])
  refine wpAnyP_ready (rs := [2]) (by kernel_rfl) (by simp) ?_
  refine AllReadyP.cons (o := _) rfl (fun K hK => ?_) AllReadyP.nil
  · go_simp
    (go_at_call 51; with_reducible refine (hmarks _ hHeld.1.old).mono ?_; rintro e w5 ⟨v5, rfl, hms, hb5⟩)
    refine hK.out _ _ ?_ (fun hHeld => ?_)
    · (exact ⟨hHeld.1.below hb5, trivial⟩)
    clear hK K
    (try simp only [Act.put, List.setIfInBounds_toArray, List.set_cons_zero, List.set_cons_succ])
    refine wpAnyP_ready (rs := [3]) (by kernel_rfl) (by simp) ?_
    refine AllReadyP.cons (o := _) rfl (fun K hK => ?_) AllReadyP.nil
    · go_simp
      (go_at_call 50; with_reducible refine (hbounds _ _ hms).mono ?_; rintro e w6 ⟨vx, vy, rfl, hyes, hb6⟩)
      refine hK.out _ _ ?_ (fun hHeld => ?_)
      · (exact ⟨hHeld.1.below hb6, trivial⟩)
      clear hK K
      (try simp only [Act.put, List.setIfInBounds_toArray, List.set_cons_zero, List.set_cons_succ])
      refine wpAnyP_take0 (i := 4) (v := ?_) rfl (by kernel_rfl) (by kernel_rfl) (by kernel_rfl) (by kernel_rfl) (by rfl) (fun _ _ _ h => h) (Or.inl ⟨by rfl, ?_⟩) hHeld ?_
      rotate_left 1
      · ((intro w9 hSw; obtain ⟨⟨q0, q1, q2, q3, q4, q5, q6, q7, q8, q9⟩, _, _⟩ := hSw; go_simp) <;> with_reducible rfl)
      (try simp only [Act.put, List.setIfInBounds_toArray, List.set_cons_zero, List.set_cons_succ])
      refine wpAnyP_take0 (i := 5) (v := ?_) rfl (by kernel_rfl) (by kernel_rfl) (by kernel_rfl) (by kernel_rfl) (by rfl) (fun _ _ _ h => h) (Or.inl ⟨by rfl, ?_⟩) hHeld ?_
      rotate_left 1
      · ((intro w9 hSw; obtain ⟨⟨q0, q1, q2, q3, q4, q5, q6, q7, q8, q9⟩, _, _⟩ := hSw; go_simp) <;> with_reducible rfl)
      (try simp only [Act.put, List.setIfInBounds_toArray, List.set_cons_zero, List.set_cons_succ])
      refine wpAnyP_take0 (i := 6) (v := ?_) rfl (by kernel_rfl) (by kernel_rfl) (by kernel_rfl) (by kernel_rfl) (by rfl) (fun _ _ _ h => h) (Or.inl ⟨by rfl, ?_⟩) hHeld ?_
      rotate_left 1
      · ((intro w9 hSw; obtain ⟨⟨q0, q1, q2, q3, q4, q5, q6, q7, q8, q9⟩, _, _⟩ := hSw; go_simp) <;> with_reducible rfl)
      (try simp only [Act.put, List.setIfInBounds_toArray, List.set_cons_zero, List.set_cons_succ])
      refine wpAnyP_take0 (i := 7) (v := ?_) rfl (by kernel_rfl) (by kernel_rfl) (by kernel_rfl) (by kernel_rfl) (by rfl) (fun _ _ _ h => h) (Or.inl ⟨by rfl, ?_⟩) hHeld ?_
      rotate_left 1
      · ((intro w9 hSw; obtain ⟨⟨q0, q1, q2, q3, q4, q5, q6, q7, q8, q9⟩, _, _⟩ := hSw; go_simp) <;> with_reducible rfl)
      (try simp only [Act.put, List.setIfInBounds_toArray, List.set_cons_zero, List.set_cons_succ])
      refine wpAnyP_take0 (i := 8) (v := ?_) rfl (by kernel_rfl) (by kernel_rfl) (by kernel_rfl) (by kernel_rfl) (by rfl) (fun _ _ _ h => h) (Or.inl ⟨by rfl, ?_⟩) hHeld ?_
      rotate_left 1
      · ((intro w9 hSw; obtain ⟨⟨q0, q1, q2, q3, q4, q5, q6, q7, q8, q9⟩, _, _⟩ := hSw; go_simp) <;> with_reducible rfl)
      (try simp only [Act.put, List.setIfInBounds_toArray, List.set_cons_zero, List.set_cons_succ])
      refine wpAnyP_take0 (i := 9) (v := ?_) rfl (by kernel_rfl) (by kernel_rfl) (by kernel_rfl) (by kernel_rfl) (by rfl) (fun _ _ _ h => h) (Or.inl ⟨by rfl, ?_⟩) hHeld ?_
      rotate_left 1
      · ((intro w9 hSw; obtain ⟨⟨q0, q1, q2, q3, q4, q5, q6, q7, q8, q9⟩, _, _⟩ := hSw; go_simp) <;> with_reducible rfl)
      (try simp only [Act.put, List.setIfInBounds_toArray, List.set_cons_zero, List.set_cons_succ])
      refine wpAnyP_take0 (i := 10) (v := ?_) rfl (by kernel_rfl) (by kernel_rfl) (by kernel_rfl) (by kernel_rfl) (by rfl) (fun _ _ _ h => h) (Or.inl ⟨by rfl, ?_⟩) hHeld ?_
      rotate_left 1
      · ((intro w9 hSw; obtain ⟨⟨q0, q1, q2, q3, q4, q5, q6, q7, q8, q9⟩, _, _⟩ := hSw; go_simp) <;> with_reducible rfl)
      (try simp only [Act.put, List.setIfInBounds_toArray, List.set_cons_zero, List.set_cons_succ])
      refine wpAnyP_done (by kernel_rfl) ?_ _
      (try simp only [Act.put, List.getElem_toArray, List.getElem_cons_zero, List.getElem_cons_succ, List.setIfInBounds_toArray, List.set_cons_zero, List.set_cons_succ])
      have hB6 := hHeld.1.old
      clear hHeld hyes hms hmarks hbounds
      go_wp2
      go_ret
      exact ⟨rfl, hB6⟩
set_option maxRecDepth 100000 in
set_option maxHeartbeats 8000000 in
theorem rknown_yes (m : Mach) (k : Nat) (hk : k ≤ 12) (hok : m.ok = true) (hcan : m.can) (w : World) (h : MIn w m) : Calls Tryz.prog 19 #[m.val, .int .i64 k] w fun e w' => e = .returned (.tuple #[.agg #[.int .i64 (m.axX.ends k).1, .int .i64 (m.axX.ends k).2], .agg #[.int .i64 (m.axY.ends k).1, .int .i64 (m.axY.ends k).2]]) ∧ Below w.heap.size w w' := by
  obtain ⟨b, hb, hbounds⟩ := rbounds_m m hok
  obtain rfl : b = true := hb.2 hcan
  obtain ⟨W0, hW⟩ : ∃ W0, ((w.alloc (.cells #[.slice m.sa m.sn m.sc, .int .i64 m.c0, .int .i64 m.c1, .int .i64 m.d0, .int .i64 m.d1, .int .i64 m.w0, .int .i64 m.w1, .int .i64 m.v0, .int .i64 m.v1, .slice m.ra m.rn m.rc] 27)).alloc (Obj.cells #[.int .i64 0, .int .i64 0] 24)).alloc (Obj.cells #[.int .i64 0, .int .i64 0] 24) = W0 := ⟨_, rfl⟩
  obtain ⟨A1, hA1⟩ : ∃ A1, w.alloc (.cells #[.slice m.sa m.sn m.sc, .int .i64 m.c0, .int .i64 m.c1, .int .i64 m.d0, .int .i64 m.d1, .int .i64 m.w0, .int .i64 m.w1, .int .i64 m.v0, .int .i64 m.v1, .slice m.ra m.rn m.rc] 27) = A1 := ⟨_, rfl⟩
  have hP : PoK w m W0.drew ∧ Two W0.drew (w.heap.size + 1) 0 0 ∧ Two W0.drew (w.heap.size + 1 + 1) 0 0 := by
    have s1 : A1.heap.size = w.heap.size + 1 := by rw [← hA1, World.size_alloc]
    have s2 : (A1.alloc (Obj.cells #[.int .i64 0, .int .i64 0] 24)).heap.size = w.heap.size + 1 + 1 := by rw [World.size_alloc, s1]
    have m1 : MAt A1 w.heap.size m := by rw [← hA1]; exact MAt.new w m
    have b1 : Below w.heap.size w A1 := by rw [← hA1]; exact (Below.refl _ _).alloc (Nat.le_refl _) _
    have t1 := Two.new A1 24 0 0
    have t2 := Two.new (A1.alloc (Obj.cells #[.int .i64 0, .int .i64 0] 24)) 24 0 0
    have b2 : Below A1.heap.size A1 (A1.alloc (Obj.cells #[.int .i64 0, .int .i64 0] 24)) := (Below.refl _ _).alloc (Nat.le_refl _) _
    have b3 : Below (A1.alloc (Obj.cells #[.int .i64 0, .int .i64 0] 24)).heap.size (A1.alloc (Obj.cells #[.int .i64 0, .int .i64 0] 24)) ((A1.alloc (Obj.cells #[.int .i64 0, .int .i64 0] 24)).alloc (Obj.cells #[.int .i64 0, .int .i64 0] 24)) := (Below.refl _ _).alloc (Nat.le_refl _) _
    have t1' := t1.below b3 (by omega)
    rw [s1] at t1'
    rw [s2] at t2
    rw [hA1] at hW
    rw [hW] at t1' t2 b3
    have hs3 : W0.heap.size = w.heap.size + 1 + 1 + 1 := by rw [← hW, World.size_alloc, s2]
    exact ⟨⟨((m1.below b2 (by omega)).below b3 (by omega)).below (Below.refl W0.heap.size _).drew (by omega), ((b1.trans (b2.mono (by omega))).trans (b3.mono (by omega))).drew, by show w.heap.size + 3 ≤ W0.heap.size; omega⟩, t1'.drew, t2.drew⟩
  obtain ⟨hP, hT1, hT2⟩ := hP
  clear hA1
  have hmarks := fun (W : World) (hB : Below w.heap.size w W) => rmarks_any m W hok (h.below hB)
  have hk0 : (0 : Int) ≤ (k : Int) := Int.natCast_nonneg _
  have hk13 : k < 13 := by omega
  have hki : (k : Int) < 13 := by omega
  clear hb
  go_enter Tryz.func19, Tryz.ntmps19
  go_wp2_with fail
  refine wp_region_late [] (fun w9 => PoK w m w9) (fun w9 => Two w9 (w.heap.size + 1) 0 0 ∧ Two w9 (w.heap.size + 1 + 1) 0 0) (by kernel_rfl) ?_ (fun hHeld => ?_)
  · (exact ⟨hP, hT1, hT2⟩)
  refine wpAnyP_take0 (i := 0) (v := ?_) rfl (by kernel_rfl) (by kernel_rfl) (by kernel_rfl) (by kernel_rfl) (by rfl) (fun _ _ _ h => h) (Or.inl ⟨by rfl, ?_⟩) hHeld ?_
  rotate_left 1
  · ((intro w9 hSw; obtain ⟨⟨q0, q1, q2, q3, q4, q5, q6, q7, q8, q9⟩, _, _⟩ := hSw; go_simp) <;> with_reducible rfl)
  (try simp only [Act.put, List.setIfInBounds_toArray, List.set_cons_zero, List.set_cons_succ])
  refine wpAnyP_take0 (i := 1) (v := ?_) rfl (by kernel_rfl) (by kernel_rfl) (by kernel_rfl) (by kernel_rfl) (by rfl) (fun _ _ _ h => h) (Or.inl ⟨by rfl, ?_⟩) hHeld ?_
  rotate_left 1
  · ((intro w9 hSw; obtain ⟨⟨q0, q1, q2, q3, q4, q5, q6, q7, q8, q9⟩, _, _⟩ := hSw; go_simp) <;> with_reducible rfl)
  (try simp only [Act.put, List.setIfInBounds_toArray, List.set_cons_zero, List.set_cons_succ])
  refine wpAnyP_ready (rs := [2]) (by kernel_rfl) (by simp) ?_
  refine AllReadyP.cons (o := _) rfl (fun K hK => ?_) AllReadyP.nil
  · go_simp
    (go_at_call 51; with_reducible refine (hmarks _ hHeld.1.old).mono ?_; rintro e w5 ⟨v5, rfl, hms, hb5⟩)
    refine hK.out _ _ ?_ (fun hHeld => ?_)
    · (exact ⟨hHeld.1.below hb5, (hHeld.2.1.below hb5 (by have := hHeld.1.big; omega)), (hHeld.2.2.below hb5 (by have := hHeld.1.big; omega))⟩)
    clear hK K
    (try simp only [Act.put, List.setIfInBounds_toArray, List.set_cons_zero, List.set_cons_succ])
    refine wpAnyP_ready (rs := [3]) (by kernel_rfl) (by simp) ?_
    refine AllReadyP.cons (o := _) rfl (fun K hK => ?_) AllReadyP.nil
    · go_simp
      (go_at_call 50; with_reducible refine (hbounds _ _ hms).mono ?_; rintro e w6 ⟨vx, vy, rfl, hyes, hb6⟩)
      refine hK.out _ _ ?_ (fun hHeld => ?_)
      · (exact ⟨hHeld.1.below hb6, (hHeld.2.1.below hb6 (by have := hHeld.1.big; omega)), (hHeld.2.2.below hb6 (by have := hHeld.1.big; omega))⟩)
      clear hK K
      (try simp only [Act.put, List.setIfInBounds_toArray, List.set_cons_zero, List.set_cons_succ])
      refine wpAnyP_take0 (i := 4) (v := ?_) rfl (by kernel_rfl) (by kernel_rfl) (by kernel_rfl) (by kernel_rfl) (by rfl) (fun _ _ _ h => h) (Or.inl ⟨by rfl, ?_⟩) hHeld ?_
      rotate_left 1
      · ((intro w9 hSw; obtain ⟨⟨q0, q1, q2, q3, q4, q5, q6, q7, q8, q9⟩, _, _⟩ := hSw; go_simp) <;> with_reducible rfl)
      (try simp only [Act.put, List.setIfInBounds_toArray, List.set_cons_zero, List.set_cons_succ])
      refine wpAnyP_take0 (i := 5) (v := ?_) rfl (by kernel_rfl) (by kernel_rfl) (by kernel_rfl) (by kernel_rfl) (by rfl) (fun _ _ _ h => h) (Or.inl ⟨by rfl, ?_⟩) hHeld ?_
      rotate_left 1
      · ((intro w9 hSw; obtain ⟨⟨q0, q1, q2, q3, q4, q5, q6, q7, q8, q9⟩, _, _⟩ := hSw; go_simp) <;> with_reducible rfl)
      (try simp only [Act.put, List.setIfInBounds_toArray, List.set_cons_zero, List.set_cons_succ])
      refine wpAnyP_take0 (i := 6) (v := ?_) rfl (by kernel_rfl) (by kernel_rfl) (by kernel_rfl) (by kernel_rfl) (by rfl) (fun _ _ _ h => h) (Or.inl ⟨by rfl, ?_⟩) hHeld ?_
      rotate_left 1
      · ((intro w9 hSw; obtain ⟨⟨q0, q1, q2, q3, q4, q5, q6, q7, q8, q9⟩, _, _⟩ := hSw; go_simp) <;> with_reducible rfl)
      (try simp only [Act.put, List.setIfInBounds_toArray, List.set_cons_zero, List.set_cons_succ])
      refine wpAnyP_take0 (i := 7) (v := ?_) rfl (by kernel_rfl) (by kernel_rfl) (by kernel_rfl) (by kernel_rfl) (by rfl) (fun _ _ _ h => h) (Or.inl ⟨by rfl, ?_⟩) hHeld ?_
      rotate_left 1
      · ((intro w9 hSw; obtain ⟨⟨q0, q1, q2, q3, q4, q5, q6, q7, q8, q9⟩, _, _⟩ := hSw; go_simp) <;> with_reducible rfl)
      (try simp only [Act.put, List.setIfInBounds_toArray, List.set_cons_zero, List.set_cons_succ])
      refine wpAnyP_take0 (i := 8) (v := ?_) rfl (by kernel_rfl) (by kernel_rfl) (by kernel_rfl) (by kernel_rfl) (by rfl) (fun _ _ _ h => h) (Or.inl ⟨by rfl, ?_⟩) hHeld ?_
      rotate_left 1
      · ((intro w9 hSw; obtain ⟨⟨q0, q1, q2, q3, q4, q5, q6, q7, q8, q9⟩, _, _⟩ := hSw; go_simp) <;> with_reducible rfl)
      (try simp only [Act.put, List.setIfInBounds_toArray, List.set_cons_zero, List.set_cons_succ])
      refine wpAnyP_take0 (i := 9) (v := ?_) rfl (by kernel_rfl) (by kernel_rfl) (by kernel_rfl) (by kernel_rfl) (by rfl) (fun _ _ _ h => h) (Or.inl ⟨by rfl, ?_⟩) hHeld ?_
      rotate_left 1
      · ((intro w9 hSw; obtain ⟨⟨q0, q1, q2, q3, q4, q5, q6, q7, q8, q9⟩, _, _⟩ := hSw; go_simp) <;> with_reducible rfl)
      (try simp only [Act.put, List.setIfInBounds_toArray, List.set_cons_zero, List.set_cons_succ])
      refine wpAnyP_take0 (i := 10) (v := ?_) rfl (by kernel_rfl) (by kernel_rfl) (by kernel_rfl) (by kernel_rfl) (by rfl) (fun _ _ _ h => h) (Or.inl ⟨by rfl, ?_⟩) hHeld ?_
      rotate_left 1
      · ((intro w9 hSw; obtain ⟨⟨q0, q1, q2, q3, q4, q5, q6, q7, q8, q9⟩, _, _⟩ := hSw; go_simp) <;> with_reducible rfl)
      (try simp only [Act.put, List.setIfInBounds_toArray, List.set_cons_zero, List.set_cons_succ])
      refine wpAnyP_done (by kernel_rfl) ?_ _
      (try simp only [Act.put, List.getElem_toArray, List.getElem_cons_zero, List.getElem_cons_succ, List.setIfInBounds_toArray, List.set_cons_zero, List.set_cons_succ])
      obtain ⟨gx, cx, gy, cy, rfl, rfl, hlx, hly, hgx, hgy, hCx, hCy⟩ := hyes (by first | rfl | trivial)
      have hs5 := hb5.size
      have hbg := hP.big
      have hU1 := hHeld.2.1.drew
      have hU2 := hHeld.2.2.drew
      have hbk : W0.drew.heap.size = W0.heap.size := rfl
      have hbh : w.heap.size + 3 ≤ W0.heap.size := hbg
      have hK : KcR w m gx gy m.axX.ends m.axY.ends w6.drew := ⟨hCx.below (Below.refl w6.heap.size _).drew hgx, hCy.below (Below.refl w6.heap.size _).drew hgy, hHeld.1.old.drew, hHeld.1.big, ⟨by omega, by omega⟩, ⟨by omega, by omega⟩⟩
      generalize hEX : m.axX.ends = EX at hK
      generalize hEY : m.axY.ends = EY at hK
      generalize hex : EX k = ex
      generalize hey : EY k = ey
      obtain ⟨x0, x1⟩ := ex
      obtain ⟨y0, y1⟩ := ey
      clear hCx hCy hyes hHeld hb6 hb5 hms hmarks hbounds
      go_wp2_with fail
      refine wp_region_late [8, 9] (fun w9 => KcR w m gx gy EX EY w9) (fun w9 => Two w9 (w.heap.size + 1) 0 0 ∧ Two w9 (w.heap.size + 1 + 1) 0 0) (by kernel_rfl) ?_ (fun hHeld => ?_)
      · (exact ⟨hK, hU1, hU2⟩)
      clear hK hU1 hU2
      generalize w6.drew = V at *
      refine wpAnyP_take0 (i := 0) (v := ?_) rfl (by kernel_rfl) (by kernel_rfl) (by kernel_rfl) (by kernel_rfl) (by rfl) (fun _ _ _ h => h) (Or.inl ⟨by rfl, ?_⟩) hHeld ?_
      rotate_left 1
      · ((intro w9 hSw; have c0 := (hSw.cx.c k hk13).1; have c1 := (hSw.cx.c k hk13).2; have d0 := (hSw.cy.c k hk13).1; have d1 := (hSw.cy.c k hk13).2; clear hSw; rw [hex] at c0 c1; rw [hey] at d0 d1; (try dsimp only at c0 c1 d0 d1); go_simp) <;> with_reducible rfl)
      (try simp only [Act.put, List.setIfInBounds_toArray, List.set_cons_zero, List.set_cons_succ])
      refine wpAnyP_take0 (i := 1) (v := ?_) rfl (by kernel_rfl) (by kernel_rfl) (by kernel_rfl) (by kernel_rfl) (by rfl) (fun _ _ _ h => h) (Or.inl ⟨by rfl, ?_⟩) hHeld ?_
      rotate_left 1
      · ((intro w9 hSw; have c0 := (hSw.cx.c k hk13).1; have c1 := (hSw.cx.c k hk13).2; have d0 := (hSw.cy.c k hk13).1; have d1 := (hSw.cy.c k hk13).2; clear hSw; rw [hex] at c0 c1; rw [hey] at d0 d1; (try dsimp only at c0 c1 d0 d1); go_simp) <;> with_reducible rfl)
      (try simp only [Act.put, List.setIfInBounds_toArray, List.set_cons_zero, List.set_cons_succ])
      refine wpAnyP_take0 (i := 2) (v := ?_) rfl (by kernel_rfl) (by kernel_rfl) (by kernel_rfl) (by kernel_rfl) (by rfl) (fun _ _ _ h => h) (Or.inl ⟨by rfl, ?_⟩) hHeld ?_
      rotate_left 1
      · ((intro w9 hSw; have c0 := (hSw.cx.c k hk13).1; have c1 := (hSw.cx.c k hk13).2; have d0 := (hSw.cy.c k hk13).1; have d1 := (hSw.cy.c k hk13).2; clear hSw; rw [hex] at c0 c1; rw [hey] at d0 d1; (try dsimp only at c0 c1 d0 d1); go_simp) <;> with_reducible rfl)
      (try simp only [Act.put, List.setIfInBounds_toArray, List.set_cons_zero, List.set_cons_succ])
      refine wpAnyP_take0 (i := 3) (v := ?_) rfl (by kernel_rfl) (by kernel_rfl) (by kernel_rfl) (by kernel_rfl) (by rfl) (fun _ _ _ h => h) (Or.inl ⟨by rfl, ?_⟩) hHeld ?_
      rotate_left 1
      · ((intro w9 hSw; have c0 := (hSw.cx.c k hk13).1; have c1 := (hSw.cx.c k hk13).2; have d0 := (hSw.cy.c k hk13).1; have d1 := (hSw.cy.c k hk13).2; clear hSw; rw [hex] at c0 c1; rw [hey] at d0 d1; (try dsimp only at c0 c1 d0 d1); go_simp) <;> with_reducible rfl)
      (try simp only [Act.put, List.setIfInBounds_toArray, List.set_cons_zero, List.set_cons_succ])
      refine wpAnyP_take0 (i := 4) (v := ?_) rfl (by kernel_rfl) (by kernel_rfl) (by kernel_rfl) (by kernel_rfl) (by rfl) (fun _ _ _ h => h) (Or.inl ⟨by rfl, ?_⟩) hHeld ?_
      rotate_left 1
      · ((intro w9 hSw; have c0 := (hSw.cx.c k hk13).1; have c1 := (hSw.cx.c k hk13).2; have d0 := (hSw.cy.c k hk13).1; have d1 := (hSw.cy.c k hk13).2; clear hSw; rw [hex] at c0 c1; rw [hey] at d0 d1; (try dsimp only at c0 c1 d0 d1); go_simp) <;> with_reducible rfl)
      (try simp only [Act.put, List.setIfInBounds_toArray, List.set_cons_zero, List.set_cons_succ])
      refine wpAnyP_take0 (i := 5) (v := ?_) rfl (by kernel_rfl) (by kernel_rfl) (by kernel_rfl) (by kernel_rfl) (by rfl) (fun _ _ _ h => h) (Or.inl ⟨by rfl, ?_⟩) hHeld ?_
      rotate_left 1
      · ((intro w9 hSw; have c0 := (hSw.cx.c k hk13).1; have c1 := (hSw.cx.c k hk13).2; have d0 := (hSw.cy.c k hk13).1; have d1 := (hSw.cy.c k hk13).2; clear hSw; rw [hex] at c0 c1; rw [hey] at d0 d1; (try dsimp only at c0 c1 d0 d1); go_simp) <;> with_reducible rfl)
      (try simp only [Act.put, List.setIfInBounds_toArray, List.set_cons_zero, List.set_cons_succ])
      refine wpAnyP_take0 (i := 6) (v := ?_) rfl (by kernel_rfl) (by kernel_rfl) (by kernel_rfl) (by kernel_rfl) (by rfl) (fun _ _ _ h => h) (Or.inl ⟨by rfl, ?_⟩) hHeld ?_
      rotate_left 1
      · ((intro w9 hSw; have c0 := (hSw.cx.c k hk13).1; have c1 := (hSw.cx.c k hk13).2; have d0 := (hSw.cy.c k hk13).1; have d1 := (hSw.cy.c k hk13).2; clear hSw; rw [hex] at c0 c1; rw [hey] at d0 d1; (try dsimp only at c0 c1 d0 d1); go_simp) <;> with_reducible rfl)
      (try simp only [Act.put, List.setIfInBounds_toArray, List.set_cons_zero, List.set_cons_succ])
      refine wpAnyP_take0 (i := 7) (v := ?_) rfl (by kernel_rfl) (by kernel_rfl) (by kernel_rfl) (by kernel_rfl) (by rfl) (fun _ _ _ h => h) (Or.inl ⟨by rfl, ?_⟩) hHeld ?_
      rotate_left 1
      · ((intro w9 hSw; have c0 := (hSw.cx.c k hk13).1; have c1 := (hSw.cx.c k hk13).2; have d0 := (hSw.cy.c k hk13).1; have d1 := (hSw.cy.c k hk13).2; clear hSw; rw [hex] at c0 c1; rw [hey] at d0 d1; (try dsimp only at c0 c1 d0 d1); go_simp) <;> with_reducible rfl)
      (try simp only [Act.put, List.setIfInBounds_toArray, List.set_cons_zero, List.set_cons_succ])
      refine wpAnyP_ready (rs := [8]) (by kernel_rfl) (by simp) ?_
      refine AllReadyP.behind (o := _) rfl (by kernel_rfl) (fun K hK => ?_) AllReadyP.nil
      · have k0 := hHeld.2.1.k0
        have k1 := hHeld.2.1.k1
        have f0 := hHeld.2.1.f0
        have f1 := hHeld.2.1.f1
        have hS1 := hHeld.2.1.set01 x0 x1
        have hS2 := (hHeld.2.2.far (Below.heap_setCell V ⟨w.heap.size + 1, 0, none⟩ (.int .i64 x0) (w.heap.size + 1 + 1) (by show w.heap.size + 1 + 1 ≠ w.heap.size + 1; omega))).far (Below.heap_setCell _ ⟨w.heap.size + 1, 1, none⟩ (.int .i64 x1) (w.heap.size + 1 + 1) (by show w.heap.size + 1 + 1 ≠ w.heap.size + 1; omega))
        go_simp
        refine hK.out _ _ ?_ (fun hHeld => ?_)
        · (exact hHeld.1.put (by omega) (by omega) _ _)
        clear hK K
        (try simp only [Act.put, List.setIfInBounds_toArray, List.set_cons_zero, List.set_cons_succ])
        refine wpAnyP_ready (rs := [9]) (by kernel_rfl) (by simp) ?_
        refine AllReadyP.behind (o := _) rfl (by kernel_rfl) (fun K hK => ?_) AllReadyP.nil
        · have k2 := hS2.k0
          have k3 := hS2.k1
          have f2 := hS2.f0
          have f3 := hS2.f1
          have hS3 := hS2.set01 y0 y1
          have hS4 := (hS1.far (Below.heap_setCell _ ⟨w.heap.size + 1 + 1, 0, none⟩ (.int .i64 y0) (w.heap.size + 1) (by show w.heap.size + 1 ≠ w.heap.size + 1 + 1; omega))).far (Below.heap_setCell _ ⟨w.heap.size + 1 + 1, 1, none⟩ (.int .i64 y1) (w.heap.size + 1) (by show w.heap.size + 1 ≠ w.heap.size + 1 + 1; omega))
          go_simp
          refine hK.out _ _ ?_ (fun hHeld => ?_)
          · (exact hHeld.put (by omega) (by omega) _ _)
          clear hK K
          (try simp only [Act.put, List.setIfInBounds_toArray, List.set_cons_zero, List.set_cons_succ])
          refine wpAnyP_done (by kernel_rfl) ?_ _
          (try simp only [Act.put, List.getElem_toArray, List.getElem_cons_zero, List.getElem_cons_succ, List.setIfInBounds_toArray, List.set_cons_zero, List.set_cons_succ])
          generalize (((V.setCell ⟨w.heap.size + 1, 0, none⟩ (.int .i64 x0)).setCell ⟨w.heap.size + 1, 1, none⟩ (.int .i64 x1)).setCell ⟨w.heap.size + 1 + 1, 0, none⟩ (.int .i64 y0)).setCell ⟨w.heap.size + 1 + 1, 1, none⟩ (.int .i64 y1) = V2 at *
          have hO2 := hHeld.old
          have g0 := hS4.k0
          have g1 := hS4.k1
          have g2 := hS3.k0
          have g3 := hS3.k1
          clear hS1 hS2 hS3 hS4 hHeld k0 k1 k2 k3 f0 f1 f2 f3
          go_wp2_with fail
          refine bodyPost_ret (v := .tuple #[.agg #[.int .i64 x0, .int .i64 x1], .agg #[.int .i64 y0, .int .i64 y1]]) (by simp [results, Tryz.results19, go_sem, g0, g1, g2, g3]) rfl ⟨?_, hO2⟩
          rw [hEX, hEY, hex, hey]
end Go.Proofs.YtppefjmllebacaaGreatDoor
namespace Go.Proofs.YtppefjmllebacaaGreatDoor
open Go.RowKit
theorem offB_no {n : Nat} {F : Nat → Int} {i : Nat} (hi : i < n) (h : inB (F i) (-80) 80 = false) : offB n F = false := by
  unfold offB
  cases hx : anyB (fun i => !inB (F i) (-80) 80) n with
  | true => simp
  | false => have := anyB_no.1 hx i hi; (try dsimp only at this); rw [h] at this; cases this
theorem offB_iff {n : Nat} {F : Nat → Int} : offB n F = true ↔ n = 13 ∧ ∀ i, i < n → -80 ≤ F i ∧ F i ≤ 80 := by
  unfold offB
  simp only [Bool.and_eq_true, Bool.not_eq_true', decide_eq_true_eq]
  rw [anyB_no]
  constructor
  · rintro ⟨h1, h2⟩
    refine ⟨by omega, fun i hi => ?_⟩
    have := h2 i hi
    rw [Bool.not_eq_false'] at this
    exact inB_iff.1 this
  · rintro ⟨h1, h2⟩
    exact ⟨by omega, fun i hi => by rw [Bool.not_eq_false']; exact inB_iff.2 (h2 i hi)⟩
set_option maxRecDepth 100000 in
set_option maxHeartbeats 4000000 in
theorem rtruth_any (a1 : Option Addr) (n1 c1 : Nat) (a2 : Option Addr) (n2 c2 : Nat) (F G : Nat → Int) (w : World) (h1 : n1 ≤ 1000) (h2 : n2 ≤ 1000) (hF : IntsSl w (.slice a1 n1 c1) n1 F) (hG : IntsSl w (.slice a2 n2 c2) n2 G) :
    Calls Tryz.prog 13 #[.agg #[.slice a1 n1 c1, .slice a2 n2 c2]] w fun e w' => e = .returned (.bool (offB n1 F && offB n2 G)) ∧ Below w.heap.size w w' := by
  obtain ⟨W0, hW⟩ : ∃ W0, w.alloc (.cells #[.slice a1 n1 c1, .slice a2 n2 c2] 30) = W0 := ⟨_, rfl⟩
  have hw0 : Below w.heap.size w W0 := by rw [← hW]; exact (Below.refl _ _).alloc (Nat.le_refl _) _
  have k0 : W0.cell? ⟨w.heap.size, 0, none⟩ = some (.slice a1 n1 c1) := by rw [← hW]; exact cells_new w _ _ rfl
  have k1 : W0.cell? ⟨w.heap.size, 1, none⟩ = some (.slice a2 n2 c2) := by rw [← hW]; exact cells_new w _ _ rfl
  generalize hok : (offB n1 F && offB n2 G) = ok
  go_enter Tryz.func13, Tryz.ntmps13
  go_wp2
  go_loopw [3] (fun i wr => ∃ k : Nat, k ≤ n1 ∧ k ≤ n2 ∧ i = .int .i64 k ∧ wr = W0 ∧ ∀ j, j < k → inB (F j) (-80) 80 = true ∧ inB (G j) (-80) 80 = true) (fun i _ => n1 - (intOf i).toNat)
  case atStart => exact ⟨0, Nat.zero_le _, Nat.zero_le _, rfl, rfl, fun _ h => absurd h (Nat.not_lt_zero _)⟩
  case round =>
    obtain ⟨i, hi1, hi2, rfl, rfl, hall⟩ := hrel
    have hi0 : (0 : Int) ≤ (i : Int) := Int.natCast_nonneg _
    by_cases hl1 : i < n1
    · by_cases hl2 : i < n2
      · obtain ⟨b1, o1, rfl, hb1, p1⟩ := ints_at hF (by omega)
        obtain ⟨b2, o2, rfl, hb2, p2⟩ := ints_at hG (by omega)
        have e1 := (hw0.cell (p := ⟨b1, o1 + i, none⟩) hb1).trans (p1 i hl1)
        have e2 := (hw0.cell (p := ⟨b2, o2 + i, none⟩) hb2).trans (p2 i hl2)
        have hk1 : (i : Int) < (n1 : Int) := by omega
        have hk2 : (i : Int) < (n2 : Int) := by omega
        have hno1 := offB_no (F := F) hl1
        have hno2 := offB_no (F := G) hl2
        cases q1 : inB (F i) (-80) 80 with
        | false =>
          rw [hno1 q1, Bool.false_and] at hok
          subst hok
          go_wp2_with (go_at_call 44; refine (in_any _ _ _ _).mono ?_; (first | rw [q1] | rw [q2]); rintro e w' ⟨rfl, rfl⟩)
          go_ret
          first | exact ⟨rfl, hw0⟩ | exact ⟨ret_bool (by simpa using h13'), hw0⟩
        | true =>
          cases q2 : inB (G i) (-80) 80 with
          | false =>
            rw [hno2 q2, Bool.and_false] at hok
            subst hok
            go_wp2_with (go_at_call 44; refine (in_any _ _ _ _).mono ?_; (first | rw [q1] | rw [q2]); rintro e w' ⟨rfl, rfl⟩)
            go_ret
            first | exact ⟨rfl, hw0⟩ | exact ⟨ret_bool (by simpa using h13'), hw0⟩
          | true =>
            go_wp2_with (go_at_call 44; refine (in_any _ _ _ _).mono ?_; (first | rw [q1] | rw [q2]); rintro e w' ⟨rfl, rfl⟩)
            go_roundw
            case rel => exact ⟨i + 1, by omega, by omega, by go_num, by first | rfl | trivial, all_succ (p := fun j => inB (F j) (-80) 80 = true ∧ inB (G j) (-80) 80 = true) hall ⟨q1, q2⟩⟩
            case measure => simp [intOf]; omega
      · obtain rfl : n2 = i := by omega
        have hk1 : (n2 : Int) < (n1 : Int) := by omega
        by_cases h13 : (n1 : Int) = 13
        · have h13' : ¬ (n2 : Int) = 13 := by omega
          have : offB n2 G = false := by
            cases hx : offB n2 G with
            | false => rfl
            | true => have := (offB_iff.1 hx).1; omega
          rw [this, Bool.and_false] at hok
          subst hok
          go_wp2
          go_ret
          first | exact ⟨rfl, hw0⟩ | exact ⟨ret_bool (by simpa using h13'), hw0⟩
        · have : offB n1 F = false := by
            cases hx : offB n1 F with
            | false => rfl
            | true => have := (offB_iff.1 hx).1; omega
          rw [this, Bool.false_and] at hok
          subst hok
          go_wp2
          go_ret
          first | exact ⟨rfl, hw0⟩ | exact ⟨ret_bool (by simpa using h13'), hw0⟩
    · obtain rfl : n1 = i := by omega
      by_cases h13 : (n1 : Int) = 13
      · by_cases h13' : (n2 : Int) = 13
        · have e1 : offB n1 F = true := offB_iff.2 ⟨by omega, fun j hj => inB_iff.1 (hall j hj).1⟩
          have e2 : offB n2 G = true := offB_iff.2 ⟨by omega, fun j hj => inB_iff.1 (hall j (by omega)).2⟩
          rw [e1, e2, Bool.and_true] at hok
          subst hok
          go_wp2
          go_ret
          first | exact ⟨rfl, hw0⟩ | exact ⟨ret_bool (by simpa using h13'), hw0⟩
        · have : offB n2 G = false := by
            cases hx : offB n2 G with
            | false => rfl
            | true => have := (offB_iff.1 hx).1; omega
          rw [this, Bool.and_false] at hok
          subst hok
          go_wp2
          go_ret
          first | exact ⟨rfl, hw0⟩ | exact ⟨ret_bool (by simpa using h13'), hw0⟩
      · have : offB n1 F = false := by
          cases hx : offB n1 F with
          | false => rfl
          | true => have := (offB_iff.1 hx).1; omega
        rw [this, Bool.false_and] at hok
        subst hok
        go_wp2
        go_ret
        first | exact ⟨rfl, hw0⟩ | exact ⟨ret_bool (by simpa using h13'), hw0⟩
set_option maxRecDepth 100000 in
set_option maxHeartbeats 400000 in
theorem rwithin_any (n lo hi : Int) (w : World) :
    Calls Tryz.prog 47 #[.int .i64 n, .agg #[.int .i64 lo, .int .i64 hi]] w fun e w' => e = .returned (.bool (inB n lo hi)) ∧ Below w.heap.size w w' := by
  go_enter Tryz.func47, Tryz.ntmps47
  go_wp2_with (go_at_call 44; refine (in_any _ _ _ _).mono ?_; rintro e w' ⟨rfl, rfl⟩)
  go_ret
  exact ⟨rfl, (Below.refl _ _).alloc (Nat.le_refl _) _⟩
end Go.Proofs.YtppefjmllebacaaGreatDoor
namespace Go.Proofs.YtppefjmllebacaaGreatDoor
open Go.RowKit
theorem isl_below {w w' : World} {v : Value} {n : Nat} {F : Nat → Int} (h : IntsSl w v n F) (hb : Below w.heap.size w w') : IntsSl w' v n F := by
  rcases h with h | ⟨b, off, c, h1, h2, h3⟩
  · exact .inl h
  · exact .inr ⟨b, off, c, h1, Nat.lt_of_lt_of_le h2 hb.size, fun i hi => (hb.cell (p := ⟨b, off + i, none⟩) h2).trans (h3 i hi)⟩
set_option maxRecDepth 100000 in
set_option maxHeartbeats 4000000 in
theorem Fits_no (m : Mach) (a1 : Option Addr) (n1 c1 : Nat) (a2 : Option Addr) (n2 c2 : Nat) (F G : Nat → Int) (w : World) (hs : m.sn ≤ 1000) (hr : m.rn ≤ 9223372036854775807) (h : MIn w m) (h1 : n1 ≤ 1000) (h2 : n2 ≤ 1000) (hF : IntsSl w (.slice a1 n1 c1) n1 F) (hG : IntsSl w (.slice a2 n2 c2) n2 G) (hno : (m.ok && (offB n1 F && offB n2 G)) = false) :
    Calls Tryz.prog 10 #[m.val, .agg #[.slice a1 n1 c1, .slice a2 n2 c2]] w fun e w' => e = .returned (.tuple #[.bool false, .int .i64 2]) ∧ Below w.heap.size w w' := by
  obtain ⟨W0, hW⟩ : ∃ W0, (w.alloc (.cells #[.slice m.sa m.sn m.sc, .int .i64 m.c0, .int .i64 m.c1, .int .i64 m.d0, .int .i64 m.d1, .int .i64 m.w0, .int .i64 m.w1, .int .i64 m.v0, .int .i64 m.v1, .slice m.ra m.rn m.rc] 27)).alloc (.cells #[.slice a1 n1 c1, .slice a2 n2 c2] 30) = W0 := ⟨_, rfl⟩
  have hb0 : Below w.heap.size w W0 := by rw [← hW]; exact ((Below.refl _ _).alloc (Nat.le_refl _) _).alloc (by rw [World.size_alloc]; omega) _
  have hsz : W0.heap.size = w.heap.size + 1 + 1 := by rw [← hW, World.size_alloc, World.size_alloc]
  have k0 : W0.cell? ⟨w.heap.size + 1, 0, none⟩ = some (.slice a1 n1 c1) := by
    have h := cells_new (w.alloc (.cells #[.slice m.sa m.sn m.sc, .int .i64 m.c0, .int .i64 m.c1, .int .i64 m.d0, .int .i64 m.d1, .int .i64 m.w0, .int .i64 m.w1, .int .i64 m.v0, .int .i64 m.v1, .slice m.ra m.rn m.rc] 27)) #[.slice a1 n1 c1, .slice a2 n2 c2] 30 (j := 0) rfl
    rw [World.size_alloc, hW] at h; exact h
  have k1 : W0.cell? ⟨w.heap.size + 1, 1, none⟩ = some (.slice a2 n2 c2) := by
    have h := cells_new (w.alloc (.cells #[.slice m.sa m.sn m.sc, .int .i64 m.c0, .int .i64 m.c1, .int .i64 m.d0, .int .i64 m.d1, .int .i64 m.w0, .int .i64 m.w1, .int .i64 m.v0, .int .i64 m.v1, .slice m.ra m.rn m.rc] 27)) #[.slice a1 n1 c1, .slice a2 n2 c2] 30 (j := 1) rfl
    rw [World.size_alloc, hW] at h; exact h
  have hMB : MAt W0 w.heap.size m := by rw [← hW]; exact (MAt.new w m).below ((Below.refl _ _).alloc (Nat.le_refl _) _) (by rw [World.size_alloc]; omega)
  obtain ⟨q0, q1, q2, q3, q4, q5, q6, q7, q8, q9⟩ := hMB
  have hism := fun (W : World) (hB : Below w.heap.size w W) => isMachine_any m W hs hr (h.below hB)
  have ho1 := fun (W : World) (hB : Below w.heap.size w W) => areOffs_any _ n1 F W h1 (show IntsSl W (.slice a1 n1 c1) n1 F from isl_below hF hB)
  have ho2 := fun (W : World) (hB : Below w.heap.size w W) => areOffs_any _ n2 G W h2 (show IntsSl W (.slice a2 n2 c2) n2 G from isl_below hG hB)
  generalize m.ok = x0 at *
  generalize offB n1 F = x1 at *
  generalize offB n2 G = x2 at *
  cases x0 <;> cases x1 <;> cases x2
  all_goals first
    | exact absurd hno (by decide)
    | (go_enter Tryz.func10, Tryz.ntmps10
       go_wp2_with (first
         | (go_at_call 39; with_reducible refine (hism _ hb0).mono ?_; rintro e w1 ⟨rfl, hb1⟩; have hB1 := hb0.trans (hb1.mono hb0.size); have l0 := (hb1.cell (p := ⟨w.heap.size + 1, 0, none⟩) (by show w.heap.size + 1 < _; omega)).trans k0; have l1 := (hb1.cell (p := ⟨w.heap.size + 1, 1, none⟩) (by show w.heap.size + 1 < _; omega)).trans k1; have hz1 := hb1.size)
         | (go_at_call 40; with_reducible refine (ho1 _ hB1).mono ?_; rintro e w2 ⟨rfl, hb2⟩; have hB2 := hB1.trans (hb2.mono hB1.size); have j1 := (hb2.cell (p := ⟨w.heap.size + 1, 1, none⟩) (by show w.heap.size + 1 < _; omega)).trans l1)
         | (go_at_call 40; with_reducible refine (ho2 _ hB2).mono ?_; rintro e w3 ⟨rfl, hb3⟩; have hB3 := hB2.trans (hb3.mono hB2.size)))
       go_ret2
       first | exact ⟨rfl, hB3⟩ | exact ⟨rfl, hB2⟩ | exact ⟨rfl, hB1⟩)
set_option maxRecDepth 100000 in
set_option maxHeartbeats 4000000 in
theorem Fits_yes (m : Mach) (a1 : Option Addr) (n1 c1 : Nat) (a2 : Option Addr) (n2 c2 : Nat) (F G : Nat → Int) (w : World) (hs : m.sn ≤ 1000) (hr : m.rn ≤ 9223372036854775807) (h : MIn w m) (h1 : n1 ≤ 1000) (h2 : n2 ≤ 1000) (hF : IntsSl w (.slice a1 n1 c1) n1 F) (hG : IntsSl w (.slice a2 n2 c2) n2 G) (hok : m.ok = true) (ho1' : offB n1 F = true) (ho2' : offB n2 G = true) (hc1 : n1 ≤ c1) (hc2 : n2 ≤ c2) :
    Calls Tryz.prog 10 #[m.val, .agg #[.slice a1 n1 c1, .slice a2 n2 c2]] w fun e w' => e = .returned (.tuple #[.bool (m.axX.holdB F && m.axY.holdB G), .int .i64 0]) ∧ Below w.heap.size w w' := by
  obtain ⟨W0, hW⟩ : ∃ W0, (w.alloc (.cells #[.slice m.sa m.sn m.sc, .int .i64 m.c0, .int .i64 m.c1, .int .i64 m.d0, .int .i64 m.d1, .int .i64 m.w0, .int .i64 m.w1, .int .i64 m.v0, .int .i64 m.v1, .slice m.ra m.rn m.rc] 27)).alloc (.cells #[.slice a1 n1 c1, .slice a2 n2 c2] 30) = W0 := ⟨_, rfl⟩
  have hb0 : Below w.heap.size w W0 := by rw [← hW]; exact ((Below.refl _ _).alloc (Nat.le_refl _) _).alloc (by rw [World.size_alloc]; omega) _
  have hsz : W0.heap.size = w.heap.size + 1 + 1 := by rw [← hW, World.size_alloc, World.size_alloc]
  have k0 : W0.cell? ⟨w.heap.size + 1, 0, none⟩ = some (.slice a1 n1 c1) := by
    have h := cells_new (w.alloc (.cells #[.slice m.sa m.sn m.sc, .int .i64 m.c0, .int .i64 m.c1, .int .i64 m.d0, .int .i64 m.d1, .int .i64 m.w0, .int .i64 m.w1, .int .i64 m.v0, .int .i64 m.v1, .slice m.ra m.rn m.rc] 27)) #[.slice a1 n1 c1, .slice a2 n2 c2] 30 (j := 0) rfl
    rw [World.size_alloc, hW] at h; exact h
  have k1 : W0.cell? ⟨w.heap.size + 1, 1, none⟩ = some (.slice a2 n2 c2) := by
    have h := cells_new (w.alloc (.cells #[.slice m.sa m.sn m.sc, .int .i64 m.c0, .int .i64 m.c1, .int .i64 m.d0, .int .i64 m.d1, .int .i64 m.w0, .int .i64 m.w1, .int .i64 m.v0, .int .i64 m.v1, .slice m.ra m.rn m.rc] 27)) #[.slice a1 n1 c1, .slice a2 n2 c2] 30 (j := 1) rfl
    rw [World.size_alloc, hW] at h; exact h
  have hMB : MAt W0 w.heap.size m := by rw [← hW]; exact (MAt.new w m).below ((Below.refl _ _).alloc (Nat.le_refl _) _) (by rw [World.size_alloc]; omega)
  obtain ⟨q0, q1, q2, q3, q4, q5, q6, q7, q8, q9⟩ := hMB
  have hism := fun (W : World) (hB : Below w.heap.size w W) => isMachine_any m W hs hr (h.below hB)
  have ho1 := fun (W : World) (hB : Below w.heap.size w W) => areOffs_any _ n1 F W h1 (show IntsSl W (.slice a1 n1 c1) n1 F from isl_below hF hB)
  have ho2 := fun (W : World) (hB : Below w.heap.size w W) => areOffs_any _ n2 G W h2 (show IntsSl W (.slice a2 n2 c2) n2 G from isl_below hG hB)
  obtain ⟨e1, r1⟩ := offB_iff.1 ho1'
  obtain ⟨e2, r2⟩ := offB_iff.1 ho2'
  rw [hok] at hism
  rw [ho1'] at ho1
  rw [ho2'] at ho2
  subst e1
  subst e2
  have htr := fun (W : World) (hB : Below w.heap.size w W) => isTruth_any m a1 c1 a2 c2 F G W hok (h.below hB) (isl_below hF hB) (isl_below hG hB) hc1 hc2 r1 r2
  generalize (m.axX.holdB F && m.axY.holdB G) = res at *
  go_enter Tryz.func10, Tryz.ntmps10
  go_wp2_with (first
    | (go_at_call 39; with_reducible refine (hism _ hb0).mono ?_; rintro e w1 ⟨rfl, hb1⟩; have hB1 := hb0.trans (hb1.mono hb0.size); have l0 := (hb1.cell (p := ⟨w.heap.size + 1, 0, none⟩) (by show w.heap.size + 1 < _; omega)).trans k0; have l1 := (hb1.cell (p := ⟨w.heap.size + 1, 1, none⟩) (by show w.heap.size + 1 < _; omega)).trans k1; have hz1 := hb1.size; have hM1 := (show MAt W0 w.heap.size m from ⟨q0, q1, q2, q3, q4, q5, q6, q7, q8, q9⟩).below hb1 (by omega))
    | (go_at_call 40; with_reducible refine (ho1 _ hB1).mono ?_; rintro e w2 ⟨rfl, hb2⟩; have hB2 := hB1.trans (hb2.mono hB1.size); have j1 := (hb2.cell (p := ⟨w.heap.size + 1, 1, none⟩) (by show w.heap.size + 1 < _; omega)).trans l1; have j0 := (hb2.cell (p := ⟨w.heap.size + 1, 0, none⟩) (by show w.heap.size + 1 < _; omega)).trans l0; have hz2 := hb2.size; have hM2 := hM1.below hb2 (by omega))
    | (go_at_call 40; with_reducible refine (ho2 _ hB2).mono ?_; rintro e w3 ⟨rfl, hb3⟩; have hB3 := hB2.trans (hb3.mono hB2.size); have i0 := (hb3.cell (p := ⟨w.heap.size + 1, 0, none⟩) (by show w.heap.size + 1 < _; omega)).trans j0; have i1 := (hb3.cell (p := ⟨w.heap.size + 1, 1, none⟩) (by show w.heap.size + 1 < _; omega)).trans j1; have hM3 := hM2.below hb3 (by omega); obtain ⟨p0, p1, p2, p3, p4, p5, p6, p7, p8, p9⟩ := hM3)
    | (go_at_call 41; with_reducible refine (htr _ hB3).mono ?_; rintro e w4 ⟨rfl, hb4⟩; have hB4 := hB3.trans (hb4.mono hB3.size)))
  go_ret2
  exact ⟨rfl, hB4⟩
end Go.Proofs.YtppefjmllebacaaGreatDoor
