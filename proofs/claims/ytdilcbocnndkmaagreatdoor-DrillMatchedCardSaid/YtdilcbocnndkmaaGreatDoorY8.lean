/- A part of the proof: see the last file. -/
import Derived.Test.YtdilcbocnndkmaaGreatDoorY7
set_option linter.unusedVariables false
set_option linter.unusedSimpArgs false
set_option linter.unusedSectionVars false
namespace Go.Proofs.YtdilcbocnndkmaaGreatDoor
open Go.RowKit Go.Can
/-! ### What turning does -/
theorem itr_one4 (p : Int × Int) : itr 1 p 4 = p := by
  obtain ⟨x, y⟩ := p
  simp [itr, trn, rot]
theorem itr_four2 (p : Int × Int) : itr 4 p 2 = p := by
  obtain ⟨x, y⟩ := p
  simp [itr, trn, rot]
def farN (a b : Int × Int) : Int := (a.1 - b.1) * (a.1 - b.1) + (a.2 - b.2) * (a.2 - b.2)
theorem farN_rot (a b : Int × Int) : ∀ k, farN (rot k a) (rot k b) = farN a b
  | 0 => rfl
  | k+1 => by
    rw [← farN_rot a b k]
    show (-(rot k a).2 - -(rot k b).2) * (-(rot k a).2 - -(rot k b).2) + ((rot k a).1 - (rot k b).1) * ((rot k a).1 - (rot k b).1) = ((rot k a).1 - (rot k b).1) * ((rot k a).1 - (rot k b).1) + ((rot k a).2 - (rot k b).2) * ((rot k a).2 - (rot k b).2)
    have e : -(rot k a).2 - -(rot k b).2 = -((rot k a).2 - (rot k b).2) := by omega
    rw [e, Int.neg_mul_neg, Int.add_comm]
theorem farN_trn (a b : Int × Int) (t : Nat) : farN (trn t a) (trn t b) = farN a b := by
  unfold trn
  split
  · exact farN_rot a b t
  · rw [farN_rot]
    show (-a.1 - -b.1) * (-a.1 - -b.1) + (a.2 - b.2) * (a.2 - b.2) = (a.1 - b.1) * (a.1 - b.1) + (a.2 - b.2) * (a.2 - b.2)
    have e : -a.1 - -b.1 = -(a.1 - b.1) := by omega
    rw [e, Int.neg_mul_neg]
theorem sq_small {d : Int} (h1 : -160 ≤ d) (h2 : d ≤ 160) : 0 ≤ d * d ∧ d * d ≤ 25600 := by
  rcases Int.le_total 0 d with h | h
  · exact ⟨Int.mul_nonneg h h, by have := Int.mul_le_mul h2 h2 h (by decide); omega⟩
  · have e : d * d = (-d) * (-d) := by rw [Int.neg_mul_neg]
    rw [e]
    exact ⟨Int.mul_nonneg (by omega) (by omega), by have := Int.mul_le_mul (show -d ≤ 160 by omega) (show -d ≤ 160 by omega) (by omega) (by decide); omega⟩
set_option maxRecDepth 100000 in
set_option maxHeartbeats 400000 in
theorem far_any (ax ay bx by_ : Int) (h1 : small (ax, ay)) (h2 : small (bx, by_)) (w : World) :
    Calls Tryz.prog 16 #[.agg #[.int .i64 ax, .int .i64 ay], .agg #[.int .i64 bx, .int .i64 by_]] w fun e w' => e = .returned (.int .i64 (farN (ax, ay) (bx, by_))) ∧ Below w.heap.size w w' := by
  obtain ⟨⟨a1, a2⟩, a3, a4⟩ := h1
  obtain ⟨⟨b1, b2⟩, b3, b4⟩ := h2
  dsimp only at a1 a2 a3 a4 b1 b2 b3 b4
  obtain ⟨s1, s2⟩ := sq_small (d := ax - bx) (by omega) (by omega)
  obtain ⟨s3, s4⟩ := sq_small (d := ay - by_) (by omega) (by omega)
  go_enter Tryz.func16, Tryz.ntmps16
  go_wp2
  go_ret
  exact ⟨rfl, ((Below.refl _ _).alloc (Nat.le_refl _) _).alloc (by simp) _⟩
end Go.Proofs.YtdilcbocnndkmaaGreatDoor
