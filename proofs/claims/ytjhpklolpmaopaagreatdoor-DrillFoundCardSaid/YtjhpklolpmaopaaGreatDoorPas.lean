/- A part of the proof: see the last file. -/
import Derived.Test.YtjhpklolpmaopaaGreatDoorPar
import Derived.Test.YtjhpklolpmaopaaGreatDoorProg
import Derived.Shelf.Strings.OnBuilder
set_option linter.unusedVariables false
set_option linter.unusedSimpArgs false
set_option linter.unusedSectionVars false
namespace Go.Proofs.YtjhpklolpmaopaaGreatDoor
open Go Go.Proofs Go.Can
instance globN : Glob := ⟨5⟩
def cells0 : List Value := [.int .u8 0, .int .u8 1, .int .u8 28, .int .u8 2, .int .u8 29, .int .u8 14, .int .u8 24, .int .u8 3, .int .u8 30, .int .u8 22, .int .u8 20, .int .u8 15, .int .u8 25, .int .u8 17, .int .u8 4, .int .u8 8, .int .u8 31, .int .u8 27, .int .u8 13, .int .u8 23, .int .u8 21, .int .u8 19, .int .u8 16, .int .u8 7, .int .u8 26, .int .u8 12, .int .u8 18, .int .u8 6, .int .u8 11, .int .u8 5, .int .u8 10, .int .u8 9]
def cells1 : List Value := [.int .u8 0, .int .u8 1, .int .u8 56, .int .u8 2, .int .u8 57, .int .u8 49, .int .u8 28, .int .u8 3, .int .u8 61, .int .u8 58, .int .u8 42, .int .u8 50, .int .u8 38, .int .u8 29, .int .u8 17, .int .u8 4, .int .u8 62, .int .u8 47, .int .u8 59, .int .u8 36, .int .u8 45, .int .u8 43, .int .u8 51, .int .u8 22, .int .u8 53, .int .u8 39, .int .u8 33, .int .u8 30, .int .u8 24, .int .u8 18, .int .u8 12, .int .u8 5, .int .u8 63, .int .u8 55, .int .u8 48, .int .u8 27, .int .u8 60, .int .u8 41, .int .u8 37, .int .u8 16, .int .u8 46, .int .u8 35, .int .u8 44, .int .u8 21, .int .u8 52, .int .u8 32, .int .u8 23, .int .u8 11, .int .u8 54, .int .u8 26, .int .u8 40, .int .u8 15, .int .u8 34, .int .u8 20, .int .u8 31, .int .u8 10, .int .u8 25, .int .u8 14, .int .u8 19, .int .u8 9, .int .u8 13, .int .u8 8, .int .u8 7, .int .u8 6]
def cells2 : List Value := [.int .u64 1, .int .u64 10, .int .u64 100, .int .u64 1000, .int .u64 10000, .int .u64 100000, .int .u64 1000000, .int .u64 10000000, .int .u64 100000000, .int .u64 1000000000, .int .u64 10000000000, .int .u64 100000000000, .int .u64 1000000000000, .int .u64 10000000000000, .int .u64 100000000000000, .int .u64 1000000000000000, .int .u64 10000000000000000, .int .u64 100000000000000000, .int .u64 1000000000000000000, .int .u64 10000000000000000000]
def cells3 : List Value := [.string ⟨#[109, 97, 99, 104, 105, 110, 101]⟩, .string ⟨#[115, 116, 111, 112]⟩, .string ⟨#[99, 104, 117, 99, 107]⟩, .string ⟨#[119, 101, 97, 114]⟩, .string ⟨#[114, 101, 97, 100, 105, 110, 103]⟩, .string ⟨#[101, 110, 100]⟩]
def memoJ0 : Memo := ⟨80, [(.slice (some ⟨13350, 0, none⟩) 6 6), (.string ⟨#[10]⟩)], [(13350, (.cells [(.string ⟨#[109, 97, 99, 104, 105, 110, 101, 32, 50, 32, 48]⟩), (.string ⟨#[115, 116, 111, 112, 32, 45, 52, 32, 48]⟩), (.string ⟨#[115, 116, 111, 112, 32, 52, 32, 48]⟩), (.string ⟨#[99, 104, 117, 99, 107, 32, 45, 49, 32, 49, 32, 48, 32, 48]⟩), (.string ⟨#[119, 101, 97, 114, 32, 48, 32, 49, 32, 48, 32, 48]⟩), (.string ⟨#[101, 110, 100, 32, 48, 53, 57]⟩)] 9 (0, 0) (some 1)))], 13351, (.string ⟨#[109, 97, 99, 104, 105, 110, 101, 32, 50, 32, 48, 10, 115, 116, 111, 112, 32, 45, 52, 32, 48, 10, 115, 116, 111, 112, 32, 52, 32, 48, 10, 99, 104, 117, 99, 107, 32, 45, 49, 32, 49, 32, 48, 32, 48, 10, 119, 101, 97, 114, 32, 48, 32, 49, 32, 48, 32, 48, 10, 101, 110, 100, 32, 48, 53, 57]⟩), [], 13351⟩
def memoF0 : Memo := ⟨28, [(.slice (some ⟨6, 0, none⟩) 1 1), (.int .i64 5)], [(6, (.cells [(.int .i64 1), (.int .i64 2)] 43 (0, 0) none))], 7, (.tuple #[(.slice (some ⟨14, 0, none⟩) 1 1), (.int .i64 0)]), [(14, (.cells [(.int .i64 (-2)), (.int .i64 (-1))] 43 (0, 0) (some 2)))], 15⟩
def memoF1 : Memo := ⟨29, [(.agg #[(.slice (some ⟨18, 0, none⟩) 2 2), (.int .i64 2)]), (.slice (some ⟨21, 0, none⟩) 2 2)], [(18, (.cells [(.int .i64 (-4)), (.int .i64 0), (.int .i64 4), (.int .i64 0)] 43 (0, 0) none)), (21, (.cells [(.int .i64 5), (.int .i64 1), (.int .i64 (-3)), (.int .i64 1)] 43 (0, 0) none))], 22, (.tuple #[(.int .i64 0), (.slice (some ⟨82, 0, none⟩) 2 2), (.int .i64 0)]), [(82, (.cells [(.int .i64 1), (.int .i64 0)] 3 (0, 0) (some 1)))], 83⟩
def memoF2 : Memo := ⟨31, [(.agg #[(.slice (some ⟨87, 0, none⟩) 2 2), (.int .i64 (-1)), (.int .i64 1), (.int .i64 0), (.int .i64 0), (.int .i64 0), (.int .i64 1), (.int .i64 0), (.int .i64 0), (.slice (some ⟨91, 0, none⟩) 1 1)]), (.int .i64 5)], [(87, (.cells [(.int .i64 (-4)), (.int .i64 0), (.int .i64 4), (.int .i64 0)] 43 (0, 0) none)), (91, (.cells [(.int .i64 2), (.int .i64 0), (.int .i64 0), (.int .i64 0)] 60 (0, 0) none))], 92, (.tuple #[(.agg #[(.int .i64 0), (.int .i64 3)]), (.agg #[(.int .i64 0), (.int .i64 0)]), (.int .i64 0)]), [], 575⟩
def memoF3 : Memo := ⟨33, [(.agg #[(.slice (some ⟨580, 0, none⟩) 2 2), (.int .i64 2)]), (.agg #[(.slice (some ⟨584, 0, none⟩) 2 2), (.int .i64 (-1)), (.int .i64 1), (.int .i64 0), (.int .i64 0), (.int .i64 0), (.int .i64 1), (.int .i64 0), (.int .i64 0), (.slice none 0 0)]), (.int .i64 2)], [(580, (.cells [(.int .i64 (-4)), (.int .i64 0), (.int .i64 4), (.int .i64 0)] 43 (0, 0) none)), (584, (.cells [(.int .i64 (-4)), (.int .i64 0), (.int .i64 4), (.int .i64 0)] 43 (0, 0) none))], 587, (.tuple #[(.int .i64 2), (.int .i64 0)]), [], 1396⟩
def memoF4 : Memo := ⟨35, [(.agg #[(.slice (some ⟨1399, 0, none⟩) 2 2), (.int .i64 2)]), (.agg #[(.slice (some ⟨1404, 0, none⟩) 2 2), (.int .i64 (-1)), (.int .i64 1), (.int .i64 0), (.int .i64 0), (.int .i64 0), (.int .i64 1), (.int .i64 0), (.int .i64 0), (.slice (some ⟨1408, 0, none⟩) 1 1)])], [(1399, (.cells [(.int .i64 (-4)), (.int .i64 0), (.int .i64 4), (.int .i64 0)] 43 (0, 0) none)), (1404, (.cells [(.int .i64 (-4)), (.int .i64 0), (.int .i64 4), (.int .i64 0)] 43 (0, 0) none)), (1408, (.cells [(.int .i64 2), (.int .i64 0), (.int .i64 0), (.int .i64 0)] 60 (0, 0) none))], 1409, (.tuple #[(.int .i64 4), (.int .i64 0)]), [], 2350⟩
def memoF5 : Memo := ⟨17, [(.agg #[(.slice (some ⟨2354, 0, none⟩) 2 2), (.int .i64 (-1)), (.int .i64 1), (.int .i64 0), (.int .i64 0), (.int .i64 0), (.int .i64 1), (.int .i64 0), (.int .i64 0), (.slice (some ⟨2358, 0, none⟩) 1 1)]), (.agg #[(.slice (some ⟨2362, 0, none⟩) 2 2), (.int .i64 0)])], [(2354, (.cells [(.int .i64 (-4)), (.int .i64 0), (.int .i64 4), (.int .i64 0)] 43 (0, 0) none)), (2358, (.cells [(.int .i64 2), (.int .i64 0), (.int .i64 0), (.int .i64 0)] 60 (0, 0) none)), (2362, (.cells [(.int .i64 (-3)), (.int .i64 0), (.int .i64 5), (.int .i64 0)] 43 (0, 0) none))], 2363, (.tuple #[(.slice (some ⟨5236, 0, none⟩) 11 11), (.int .i64 0)]), [(5236, (.cells [(.int .i64 1), (.int .i64 3), (.int .i64 4), (.int .i64 5), (.int .i64 6), (.int .i64 7), (.int .i64 8), (.int .i64 9), (.int .i64 10), (.int .i64 11), (.int .i64 12)] 3 (0, 0) (some 1)))], 5237⟩
def memoF6 : Memo := ⟨37, [(.agg #[(.slice (some ⟨5241, 0, none⟩) 2 2), (.int .i64 (-1)), (.int .i64 1), (.int .i64 0), (.int .i64 0), (.int .i64 0), (.int .i64 1), (.int .i64 0), (.int .i64 0), (.slice (some ⟨5245, 0, none⟩) 1 1)]), (.slice (some ⟨5254, 0, none⟩) 2 2)], [(5241, (.cells [(.int .i64 (-4)), (.int .i64 0), (.int .i64 4), (.int .i64 0)] 43 (0, 0) none)), (5245, (.cells [(.int .i64 2), (.int .i64 0), (.int .i64 0), (.int .i64 0)] 60 (0, 0) none)), (5254, (.cells [(.slice (some ⟨5249, 0, none⟩) 2 2), (.int .i64 0), (.slice (some ⟨5253, 0, none⟩) 2 2), (.int .i64 0)] 41 (0, 0) none)), (5249, (.cells [(.int .i64 (-3)), (.int .i64 0), (.int .i64 5), (.int .i64 0)] 43 (0, 0) none)), (5253, (.cells [(.int .i64 (-4)), (.int .i64 0), (.int .i64 4), (.int .i64 0)] 43 (0, 0) none))], 5255, (.tuple #[(.slice (some ⟨10631, 0, none⟩) 2 2), (.int .i64 0)]), [(10631, (.cells [(.int .i64 1), (.int .i64 2)] 3 (0, 0) (some 1)))], 10632⟩
def memoF7 : Memo := ⟨19, [(.agg #[(.slice (some ⟨10636, 0, none⟩) 2 2), (.int .i64 (-1)), (.int .i64 1), (.int .i64 0), (.int .i64 0), (.int .i64 0), (.int .i64 1), (.int .i64 0), (.int .i64 0), (.slice (some ⟨10640, 0, none⟩) 1 1)]), (.agg #[(.slice (some ⟨10644, 0, none⟩) 2 2), (.int .i64 0)]), (.int .i64 1), (.int .i64 3)], [(10636, (.cells [(.int .i64 (-4)), (.int .i64 0), (.int .i64 4), (.int .i64 0)] 43 (0, 0) none)), (10640, (.cells [(.int .i64 2), (.int .i64 0), (.int .i64 0), (.int .i64 0)] 60 (0, 0) none)), (10644, (.cells [(.int .i64 (-3)), (.int .i64 0), (.int .i64 5), (.int .i64 0)] 43 (0, 0) none))], 10645, (.tuple #[(.agg #[(.int .i64 0), (.int .i64 1)]), (.agg #[(.int .i64 0), (.int .i64 0)]), (.int .i64 0)]), [], 11926⟩
def memoF8 : Memo := ⟨39, [(.agg #[(.slice (some ⟨11931, 0, none⟩) 2 2), (.int .i64 2)]), (.agg #[(.slice (some ⟨11935, 0, none⟩) 2 2), (.int .i64 (-1)), (.int .i64 1), (.int .i64 0), (.int .i64 0), (.int .i64 0), (.int .i64 1), (.int .i64 0), (.int .i64 0), (.slice none 0 0)]), (.int .i64 2)], [(11931, (.cells [(.int .i64 (-4)), (.int .i64 0), (.int .i64 4), (.int .i64 0)] 43 (0, 0) none)), (11935, (.cells [(.int .i64 (-4)), (.int .i64 0), (.int .i64 4), (.int .i64 0)] 43 (0, 0) none))], 11938, (.tuple #[(.slice (some ⟨12446, 0, none⟩) 2 2), (.int .i64 2), (.int .i64 0)]), [(12446, (.cells [(.int .i64 (-5)), (.int .i64 0), (.int .i64 3), (.int .i64 0)] 43 (0, 0) (some 2)))], 13307⟩
theorem fairB : (Tryz.prog.funcs.all fun fn => !(fn.name == "runtime.NumGoroutine")) = true := by kernel_rfl
theorem fairM : Tryz.prog.follows .mixedOrders = true := by kernel_rfl
theorem fair : Go.Can.Fair Tryz.prog := ⟨fun g fn h => by
 have := Array.all_eq_true_iff_forall_mem.1 fairB fn (Array.mem_of_getElem? h)
 simpa using this, fairM⟩
end Go.Proofs.YtjhpklolpmaopaaGreatDoor
namespace Go.Proofs
open Go.Shelf
def Tryz.lays156_ren : Go.Shelf.Ren := ⟨fun | 156 => 80 | 165 => 124 | 166 => 125 | 169 => 126 | 240 => 149 | 241 => 150 | 276 => 159 | 277 => 160 | n => n, fun | 31 => 150 | 9 => 9 | 3 => 3 | 4 => 4 | 0 => 0 | 20 => 20 | 72 => 208 | 76 => 212 | 70 => 205 | 37 => 206 | 75 => 211 | 127 => 237 | 164 => 245 | 5 => 5 | 80 => 214 | n => n, fun | n => n⟩
theorem Tryz.lays156 : Go.Proofs.Lays.n156 Tryz.prog Tryz.lays156_ren := {
 mixed := by kernel_rfl
 f156 := Tryz.func80.trans (congrArg some (by kernel_rfl))
 f165 := Tryz.func124.trans (congrArg some (by kernel_rfl))
 f166 := Tryz.func125.trans (congrArg some (by kernel_rfl))
 f169 := Tryz.func126.trans (congrArg some (by kernel_rfl))
 f240 := Tryz.func149.trans (congrArg some (by kernel_rfl))
 f241 := Tryz.func150.trans (congrArg some (by kernel_rfl))
 f276 := Tryz.func159.trans (congrArg some (by kernel_rfl))
 f277 := Tryz.func160.trans (congrArg some (by kernel_rfl))
 t0 := Tryz.underlying0
 a0 := Tryz.isAgg0
 z0 := Tryz.sizeOf0
 v0 := Tryz.zeroValue0
 t3 := Tryz.underlying3
 a3 := Tryz.isAgg3
 z3 := Tryz.sizeOf3
 v3 := Tryz.zeroValue3
 t4 := Tryz.underlying4
 a4 := Tryz.isAgg4
 z4 := Tryz.sizeOf4
 v4 := Tryz.zeroValue4
 t9 := Tryz.underlying9
 a9 := Tryz.isAgg9
 z9 := Tryz.sizeOf9
 v9 := Tryz.zeroValue9
 t20 := Tryz.underlying20
 a20 := Tryz.isAgg20
 z20 := Tryz.sizeOf20
 v20 := Tryz.zeroValue20
 t31 := Tryz.underlying150
 a31 := Tryz.isAgg150
 z31 := Tryz.sizeOf150
 v31 := Tryz.zeroValue150
 t37 := Tryz.underlying206
 a37 := Tryz.isAgg206
 z37 := Tryz.sizeOf206
 v37 := Tryz.zeroValue206
 t70 := Tryz.underlying205
 a70 := Tryz.isAgg205
 z70 := Tryz.sizeOf205
 v70 := Tryz.zeroValue205
 t72 := Tryz.underlying208
 a72 := Tryz.isAgg208
 z72 := Tryz.sizeOf208
 v72 := Tryz.zeroValue208
 t75 := Tryz.underlying211
 a75 := Tryz.isAgg211
 z75 := Tryz.sizeOf211
 v75 := Tryz.zeroValue211
 t76 := Tryz.underlying212
 a76 := Tryz.isAgg212
 z76 := Tryz.sizeOf212
 v76 := Tryz.zeroValue212
 t127 := Tryz.underlying237
 a127 := Tryz.isAgg237
 z127 := Tryz.sizeOf237
 v127 := Tryz.zeroValue237
 t164 := Tryz.underlying245
 a164 := Tryz.isAgg245
 z164 := Tryz.sizeOf245
 v164 := Tryz.zeroValue245 }
theorem Tryz.Builder_Extra_156 : Builder.Extra Tryz.prog Tryz.lays156_ren := {
 sizeBuilder := by kernel_rfl
 liesBuilder := by kernel_rfl
 t5 := Tryz.underlying5
 a5 := Tryz.isAgg5
 z5 := Tryz.sizeOf5
 v5 := Tryz.zeroValue5
 infoByte := by kernel_rfl
 cellsByte := by kernel_rfl
 sizeByte := by kernel_rfl
 neB5 := by decide }
open Go.RowKit in
open Go.RowKit in
/-- strings.Join: "Join concatenates the elements of its first argument to create a single string. The separator string sep is placed between elements in the resulting string.": HOWEVER MANY ELEMENTS. Below the heap's end the world is as it was. (LAID: no walk: one application.) -/
theorem Tryz.strings_Join (bk o c : Nat) (xs : List ByteArray) (sep : ByteArray) (w : World) (hcells : ∀ (j : Nat) x, xs[j]? = some x → w.cell? ⟨bk, o + j, none⟩ = some (.string x)) (hbk : bk < w.heap.size) (hN : xs.length ≤ 140737488355328) (hcap : xs.length ≤ c) (hlen : (Lib.join (xs.map (·.data.toList)) sep.data.toList).length ≤ 140737488355328) :
  Calls Tryz.prog 80 #[.slice (some ⟨bk, o, none⟩) xs.length c, .string sep] w fun e w' => e = .returned (.string ⟨(Lib.join (xs.map (·.data.toList)) sep.data.toList).toArray⟩) ∧ Below w.heap.size w w' := Any.strings_Join Tryz.lays156 Tryz.Builder_Extra_156 bk o c xs sep w hcells hbk hN hcap hlen
end Go.Proofs
namespace Go.Proofs.YtjhpklolpmaopaaGreatDoor
open Go Go.Proofs Go.Can Go.RowKit
theorem bodyJ : ∃ b, Tryz.f80.body = some b := by
 have : Tryz.f80.body.isSome = true := by kernel_rfl
 exact Option.isSome_iff_exists.1 this
def joined0 : List ByteArray := [⟨#[109, 97, 99, 104, 105, 110, 101, 32, 50, 32, 48]⟩, ⟨#[115, 116, 111, 112, 32, 45, 52, 32, 48]⟩, ⟨#[115, 116, 111, 112, 32, 52, 32, 48]⟩, ⟨#[99, 104, 117, 99, 107, 32, 45, 49, 32, 49, 32, 48, 32, 48]⟩, ⟨#[119, 101, 97, 114, 32, 48, 32, 49, 32, 48, 32, 48]⟩, ⟨#[101, 110, 100, 32, 48, 53, 57]⟩]
theorem join_text0 : Value.string ⟨(Lib.join (joined0.map (·.data.toList)) [10]).toArray⟩ = memoJ0.v := by kernel_rfl
theorem join_len0 : decide ((Lib.join (joined0.map (·.data.toList)) [10]).length ≤ 100000) = true := by kernel_rfl
theorem memoJ0_ok : MemoOk Tryz.prog memoJ0 := by
 obtain ⟨b, hb⟩ := bodyJ
 refine memo_of_calls fair Tryz.func80 hb rfl rfl (by kernel_rfl) fun f w args' c hl hr hc => ?_
 have hcell := hc 13350 _ (List.mem_singleton.2 rfl)
 obtain ⟨l⟩ := args'
 cases hl with
 | cons h0 t =>
  cases t with
  | cons h1 t2 =>
   cases t2
   cases h1
   cases h0 with
   | @slice _ r lz _ cap' _ _ hf h1 h2 =>
    obtain ⟨o', ho, hor⟩ := hr.obj _ _ _ _ hcell hf
    cases o' <;> simp only [OR] at hor
    rename_i cs e' fr'
    have hcs := hor.2.2.2
    have hbk : r < w.heap.size := (hr.dom _ _ _ hf).1
    refine (Tryz.strings_Join r 0 cap' joined0 ⟨#[10]⟩ w (fun j x hx => ?_) hbk (by decide) h1 (Nat.le_trans (of_decide_eq_true join_len0) (by decide))).mono fun e w' ⟨he, hbl⟩ => ⟨_, he, by rw [← join_text0]; exact .string _, hbl⟩
    have hj : [Value.string ⟨#[109, 97, 99, 104, 105, 110, 101, 32, 50, 32, 48]⟩, Value.string ⟨#[115, 116, 111, 112, 32, 45, 52, 32, 48]⟩, Value.string ⟨#[115, 116, 111, 112, 32, 52, 32, 48]⟩, Value.string ⟨#[99, 104, 117, 99, 107, 32, 45, 49, 32, 49, 32, 48, 32, 48]⟩, Value.string ⟨#[119, 101, 97, 114, 32, 48, 32, 49, 32, 48, 32, 48]⟩, Value.string ⟨#[101, 110, 100, 32, 48, 53, 57]⟩][0 + j]? = some (.string x) := by
     have e : ([Value.string ⟨#[109, 97, 99, 104, 105, 110, 101, 32, 50, 32, 48]⟩, Value.string ⟨#[115, 116, 111, 112, 32, 45, 52, 32, 48]⟩, Value.string ⟨#[115, 116, 111, 112, 32, 52, 32, 48]⟩, Value.string ⟨#[99, 104, 117, 99, 107, 32, 45, 49, 32, 49, 32, 48, 32, 48]⟩, Value.string ⟨#[119, 101, 97, 114, 32, 48, 32, 49, 32, 48, 32, 48]⟩, Value.string ⟨#[101, 110, 100, 32, 48, 53, 57]⟩] : List Value) = joined0.map Value.string := rfl
     have e2 : ([Value.string ⟨#[109, 97, 99, 104, 105, 110, 101, 32, 50, 32, 48]⟩, Value.string ⟨#[115, 116, 111, 112, 32, 45, 52, 32, 48]⟩, Value.string ⟨#[115, 116, 111, 112, 32, 52, 32, 48]⟩, Value.string ⟨#[99, 104, 117, 99, 107, 32, 45, 49, 32, 49, 32, 48, 32, 48]⟩, Value.string ⟨#[119, 101, 97, 114, 32, 48, 32, 49, 32, 48, 32, 48]⟩, Value.string ⟨#[101, 110, 100, 32, 48, 53, 57]⟩] : List Value).drop 0 = joined0.map Value.string ++ [] := rfl
     rw [← List.getElem?_drop, e2, List.getElem?_append_left (by rw [List.length_map]; exact (List.getElem?_eq_some_iff.1 hx).1), List.getElem?_map, hx]; rfl
    obtain ⟨v', h4, h5⟩ := hcs.get _ _ hj
    cases h5
    rw [cell_of ho]; exact h4
end Go.Proofs.YtjhpklolpmaopaaGreatDoor
