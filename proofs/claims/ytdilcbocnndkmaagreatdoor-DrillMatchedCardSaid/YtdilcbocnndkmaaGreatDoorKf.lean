/- A part of the proof: see the last file. -/
import Derived.Shelf.Strings.OnBuilder
import Derived.Test.YtdilcbocnndkmaaGreatDoorProg
import Derived.Test.YtdilcbocnndkmaaGreatDoorCh
import Derived.Test.YtdilcbocnndkmaaGreatDoorKb
import Derived.Test.YtdilcbocnndkmaaGreatDoorKc
import Derived.Test.YtdilcbocnndkmaaGreatDoorKd
import Derived.Test.YtdilcbocnndkmaaGreatDoorKe
set_option linter.unusedVariables false
set_option linter.unusedSimpArgs false
set_option linter.unusedSectionVars false
namespace Go.Proofs
open Go.Shelf
def Tryz.lays156_ren : Go.Shelf.Ren := ⟨fun | 156 => 94 | 165 => 138 | 166 => 139 | 169 => 140 | 240 => 161 | 241 => 162 | 276 => 171 | 277 => 172 | n => n, fun | 31 => 159 | 9 => 9 | 3 => 3 | 4 => 4 | 0 => 0 | 20 => 20 | 72 => 216 | 76 => 220 | 70 => 213 | 37 => 214 | 75 => 219 | 127 => 242 | 164 => 250 | 5 => 5 | 80 => 222 | n => n, fun | n => n⟩
theorem Tryz.lays156 : Go.Proofs.Lays.n156 Tryz.prog Tryz.lays156_ren := {
  mixed := by kernel_rfl
  f156 := Tryz.func94.trans (congrArg some (by kernel_rfl))
  f165 := Tryz.func138.trans (congrArg some (by kernel_rfl))
  f166 := Tryz.func139.trans (congrArg some (by kernel_rfl))
  f169 := Tryz.func140.trans (congrArg some (by kernel_rfl))
  f240 := Tryz.func161.trans (congrArg some (by kernel_rfl))
  f241 := Tryz.func162.trans (congrArg some (by kernel_rfl))
  f276 := Tryz.func171.trans (congrArg some (by kernel_rfl))
  f277 := Tryz.func172.trans (congrArg some (by kernel_rfl))
  t0 := Tryz.underlying0
  a0 := Tryz.isAgg0
  z0 := Tryz.sizeOf0
  v0 := Tryz.zeroValue0
  t3 := Tryz.underlying3
  a3 := Tryz.isAgg3
  z3 := Tryz.sizeOf3
  v3 := Tryz.zeroValue3
  t4 := Tryz.underlying4
  a4 := Tryz.isAgg4
  z4 := Tryz.sizeOf4
  v4 := Tryz.zeroValue4
  t9 := Tryz.underlying9
  a9 := Tryz.isAgg9
  z9 := Tryz.sizeOf9
  v9 := Tryz.zeroValue9
  t20 := Tryz.underlying20
  a20 := Tryz.isAgg20
  z20 := Tryz.sizeOf20
  v20 := Tryz.zeroValue20
  t31 := Tryz.underlying159
  a31 := Tryz.isAgg159
  z31 := Tryz.sizeOf159
  v31 := Tryz.zeroValue159
  t37 := Tryz.underlying214
  a37 := Tryz.isAgg214
  z37 := Tryz.sizeOf214
  v37 := Tryz.zeroValue214
  t70 := Tryz.underlying213
  a70 := Tryz.isAgg213
  z70 := Tryz.sizeOf213
  v70 := Tryz.zeroValue213
  t72 := Tryz.underlying216
  a72 := Tryz.isAgg216
  z72 := Tryz.sizeOf216
  v72 := Tryz.zeroValue216
  t75 := Tryz.underlying219
  a75 := Tryz.isAgg219
  z75 := Tryz.sizeOf219
  v75 := Tryz.zeroValue219
  t76 := Tryz.underlying220
  a76 := Tryz.isAgg220
  z76 := Tryz.sizeOf220
  v76 := Tryz.zeroValue220
  t127 := Tryz.underlying242
  a127 := Tryz.isAgg242
  z127 := Tryz.sizeOf242
  v127 := Tryz.zeroValue242
  t164 := Tryz.underlying250
  a164 := Tryz.isAgg250
  z164 := Tryz.sizeOf250
  v164 := Tryz.zeroValue250 }
theorem Tryz.Builder_Extra_156 : Builder.Extra Tryz.prog Tryz.lays156_ren := {
  sizeBuilder := by kernel_rfl
  liesBuilder := by kernel_rfl
  t5 := Tryz.underlying5
  a5 := Tryz.isAgg5
  z5 := Tryz.sizeOf5
  v5 := Tryz.zeroValue5
  infoByte := by kernel_rfl
  cellsByte := by kernel_rfl
  sizeByte := by kernel_rfl
  neB5 := by decide }
open Go.RowKit in
/-- No element: the empty string; the world is as it was. (Whatever the slice's address and capacity: a nil slice too.) (LAID: no walk: one application.) -/
theorem Tryz.strings_Join_none (a : Option Addr) (c : Nat) (sep : ByteArray) (w : World) :
    Calls Tryz.prog 94 #[.slice a 0 c, .string sep] w fun e w' => e = .returned (.string ⟨#[]⟩) ∧ w' = w := Any.strings_Join_none Tryz.lays156 Tryz.Builder_Extra_156 a c sep w
open Go.RowKit in
/-- strings.Join: "Join concatenates the elements of its first argument to create a single string. The separator string sep is placed between elements in the resulting string.": HOWEVER MANY ELEMENTS. Below the heap's end the world is as it was. (LAID: no walk: one application.) -/
theorem Tryz.strings_Join (bk o c : Nat) (xs : List ByteArray) (sep : ByteArray) (w : World) (hcells : ∀ (j : Nat) x, xs[j]? = some x → w.cell? ⟨bk, o + j, none⟩ = some (.string x)) (hbk : bk < w.heap.size) (hN : xs.length ≤ 140737488355328) (hcap : xs.length ≤ c) (hlen : (Lib.join (xs.map (·.data.toList)) sep.data.toList).length ≤ 140737488355328) :
    Calls Tryz.prog 94 #[.slice (some ⟨bk, o, none⟩) xs.length c, .string sep] w fun e w' => e = .returned (.string ⟨(Lib.join (xs.map (·.data.toList)) sep.data.toList).toArray⟩) ∧ Below w.heap.size w w' := Any.strings_Join Tryz.lays156 Tryz.Builder_Extra_156 bk o c xs sep w hcells hbk hN hcap hlen
end Go.Proofs
namespace Go.Proofs.YtdilcbocnndkmaaGreatDoor
open Go Go.Proofs Go.Can Go.RowKit
def joined : List ByteArray := [⟨#[109, 97, 99, 104, 105, 110, 101, 32, 50, 32, 48]⟩, ⟨#[115, 116, 111, 112, 32, 45, 52, 32, 48]⟩, ⟨#[115, 116, 111, 112, 32, 52, 32, 48]⟩, ⟨#[99, 104, 117, 99, 107, 32, 45, 49, 32, 49, 32, 48, 32, 48]⟩, ⟨#[119, 101, 97, 114, 32, 48, 32, 49, 32, 48, 32, 48]⟩, ⟨#[101, 110, 100, 32, 48, 53, 57]⟩]
theorem body94 : ∃ b, Tryz.f94.body = some b := by
  have : Tryz.f94.body.isSome = true := by kernel_rfl
  exact Option.isSome_iff_exists.1 this
theorem join_text : Value.string ⟨(Lib.join (joined.map (·.data.toList)) [10]).toArray⟩ = memo94.v := by kernel_rfl
theorem join_len : (Lib.join (joined.map (·.data.toList)) [10]).length = 66 := by kernel_rfl
theorem memo94_ok : MemoOk Tryz.prog memo94 := by
  obtain ⟨b, hb⟩ := body94
  refine memo_of_calls fair Tryz.func94 hb rfl rfl (by kernel_rfl) fun f w args' c hl hr hc => ?_
  have hcell := hc 13350 _ (List.mem_singleton.2 rfl)
  obtain ⟨l⟩ := args'
  cases hl with
  | cons h0 t =>
    cases t with
    | cons h1 t2 =>
      cases t2
      cases h1
      cases h0 with
      | @slice _ r lz _ cap' _ _ hf h1 h2 =>
        obtain ⟨o', ho, hor⟩ := hr.obj _ _ _ _ hcell hf
        cases o' <;> simp only [OR] at hor
        rename_i cs e' fr'
        have hcs := hor.2.2.2
        have hbk : r < w.heap.size := (hr.dom _ _ _ hf).1
        refine (Tryz.strings_Join r 0 cap' joined ⟨#[10]⟩ w (fun j x hx => ?_) hbk (by decide) h1 (by rw [join_len]; omega)).mono fun e w' ⟨he, hbl⟩ => ⟨_, he, by rw [← join_text]; exact .string _, hbl⟩
        have hj : [Value.string ⟨#[109, 97, 99, 104, 105, 110, 101, 32, 50, 32, 48]⟩, .string ⟨#[115, 116, 111, 112, 32, 45, 52, 32, 48]⟩, .string ⟨#[115, 116, 111, 112, 32, 52, 32, 48]⟩, .string ⟨#[99, 104, 117, 99, 107, 32, 45, 49, 32, 49, 32, 48, 32, 48]⟩, .string ⟨#[119, 101, 97, 114, 32, 48, 32, 49, 32, 48, 32, 48]⟩, .string ⟨#[101, 110, 100, 32, 48, 53, 57]⟩][j]? = some (.string x) := by
          have e : ([Value.string ⟨#[109, 97, 99, 104, 105, 110, 101, 32, 50, 32, 48]⟩, .string ⟨#[115, 116, 111, 112, 32, 45, 52, 32, 48]⟩, .string ⟨#[115, 116, 111, 112, 32, 52, 32, 48]⟩, .string ⟨#[99, 104, 117, 99, 107, 32, 45, 49, 32, 49, 32, 48, 32, 48]⟩, .string ⟨#[119, 101, 97, 114, 32, 48, 32, 49, 32, 48, 32, 48]⟩, .string ⟨#[101, 110, 100, 32, 48, 53, 57]⟩] : List Value) = joined.map Value.string := rfl
          rw [e, List.getElem?_map, hx]; rfl
        obtain ⟨v', h4, h5⟩ := hcs.get j _ hj
        cases h5
        rw [Nat.zero_add, cell_of ho]; exact h4
/-- the package-level variables hold what the text lays -/
structure KG (w : World) : Prop where
  words : ∃ e f, w.heap[0]? = some (.cells wordsCells.toArray e f)
  pow : ∃ e f, w.heap[2]? = some (.cells powCells.toArray e f)
  db32 : ∃ e f, w.heap[3]? = some (.cells db32Cells.toArray e f)
  db64 : ∃ e f, w.heap[4]? = some (.cells db64Cells.toArray e f)
theorem KG.below {w w' : World} (h : KG w) (hb : Below w.heap.size w w') : KG w' := by
  have lt : ∀ {i : Nat} {o : Obj}, w.heap[i]? = some o → i < w.heap.size := fun h => (Array.getElem?_eq_some_iff.1 h).1
  obtain ⟨⟨e0, f0, h0⟩, ⟨e2, f2, h2⟩, ⟨e3, f3, h3⟩, e4, f4, h4⟩ := h
  exact ⟨⟨e0, f0, by rw [hb.block _ (lt h0)]; exact h0⟩, ⟨e2, f2, by rw [hb.block _ (lt h2)]; exact h2⟩, ⟨e3, f3, by rw [hb.block _ (lt h3)]; exact h3⟩, ⟨e4, f4, by rw [hb.block _ (lt h4)]; exact h4⟩⟩
theorem known_ok (w : World) (h : KG w) : Calls Tryz.prog 13 #[] w fun e w' => e = .returned (.bool true) ∧ Below w.heap.size w w' := by
  obtain ⟨⟨e0, f0, h0⟩, ⟨e2, f2, h2⟩, ⟨e3, f3, h3⟩, e4, f4, h4⟩ := h
  refine runsM_true fair (ms := [memo45, memo47, memo50, memo94]) (fun m hm => ?_) (known_run e0 e2 e3 e4 f0 f2 f3 f4) w ⟨(Array.getElem?_eq_some_iff.1 h4).1, fun g o hg => ?_⟩
  · simp only [List.mem_cons, List.not_mem_nil, or_false] at hm
    rcases hm with rfl | rfl | rfl | rfl
    · exact memo45_ok
    · exact memo47_ok
    · exact memo50_ok
    · exact memo94_ok
  · simp only [List.mem_cons, List.not_mem_nil, or_false, Prod.mk.injEq] at hg
    rcases hg with ⟨rfl, rfl⟩ | ⟨rfl, rfl⟩ | ⟨rfl, rfl⟩ | ⟨rfl, rfl⟩
    · exact ⟨_, h0, .plain (by kernel_rfl)⟩
    · exact ⟨_, h2, .plain (by kernel_rfl)⟩
    · exact ⟨_, h3, .plain (by kernel_rfl)⟩
    · exact ⟨_, h4, .plain (by kernel_rfl)⟩
end Go.Proofs.YtdilcbocnndkmaaGreatDoor
