/- impl.mixBlock: a block taken into the registers. -/
import Derived.Test.YtdeologdmdimoaaShaW
namespace Go.Proofs.Ytdeologdmdimoaa.Sh
open Go.RowKit Go.Proofs.Ytdeologdmdimoaa.Sl Go.Proofs.Ytdeologdmdimoaa.Me

def arr8 (r : R8) : Array Value := #[.int .u32 (nat r.a), .int .u32 (nat r.b), .int .u32 (nat r.c), .int .u32 (nat r.d), .int .u32 (nat r.e), .int .u32 (nat r.f), .int .u32 (nat r.g), .int .u32 (nat r.h)]
def z8 : Array Value := Array.replicate 8 (.int .u32 0)
theorem arr8_one (r : R8) : (arr8 r).all (·.oneCell') = true := by simp [arr8, Value.oneCell']
theorem arr8_at (r : R8) (j : Nat) (h : j < 8) : (arr8 r)[j]? = some (.int .u32 (nat (at8 r j))) := by
  match j, h with
  | 0, _ => rfl
  | 1, _ => rfl
  | 2, _ => rfl
  | 3, _ => rfl
  | 4, _ => rfl
  | 5, _ => rfl
  | 6, _ => rfl
  | 7, _ => rfl
theorem at8_add (x y : R8) (j : Nat) (h : j < 8) : at8 x j + at8 y j = at8 (addR x y) j := by
  match j, h with
  | 0, _ => rfl
  | 1, _ => rfl
  | 2, _ => rfl
  | 3, _ => rfl
  | 4, _ => rfl
  | 5, _ => rfl
  | 6, _ => rfl
  | 7, _ => rfl
theorem arr8_size (r : R8) : (arr8 r).size = 8 := rfl
/-- The first k of the eight words are summed up. -/
def SumTo (x y : R8) (k : Nat) (W : Array Value) : Prop := W.size = 8 ∧ ∀ j, j < 8 → W[j]? = some (.int .u32 (nat (if j < k then at8 (addR x y) j else at8 x j)))
theorem sum_zero (x y : R8) : SumTo x y 0 (arr8 x) := ⟨rfl, fun j hj => by rw [if_neg (by omega)]; exact arr8_at x j hj⟩
theorem sum_step {x y : R8} {k : Nat} {W : Array Value} (h : SumTo x y k W) (hk : k < 8) : SumTo x y (k + 1) (W.setIfInBounds k (.int .u32 (nat (at8 x k + at8 y k)))) := by
  refine ⟨by rw [Array.size_setIfInBounds]; exact h.1, fun j hj => ?_⟩
  rw [Array.getElem?_setIfInBounds]
  by_cases e : k = j
  · subst e
    rw [if_pos rfl, if_pos (by rw [h.1]; exact hk), if_pos (by omega), at8_add x y k hk]
  · rw [if_neg e, h.2 j hj]
    by_cases g : j < k
    · rw [if_pos g, if_pos (by omega)]
    · rw [if_neg g, if_neg (by omega)]
theorem sum_all {x y : R8} {W : Array Value} (h : SumTo x y 8 W) : W = arr8 (addR x y) := by
  apply Array.ext_getElem?
  intro j
  by_cases hj : j < 8
  · rw [h.2 j hj, if_pos hj, arr8_at _ j hj]
  · rw [Array.getElem?_eq_none (by rw [h.1]; omega), Array.getElem?_eq_none (by rw [arr8_size]; omega)]
def tOr (r : R8) (k w : UInt32) : UInt32 := r.h + low r.e + (r.e &&& r.f ||| ~~~r.e &&& r.g) + k + w
theorem tOr_eq (r : R8) (k w : UInt32) : tOr r k w = tOf r k w := by unfold tOr tOf; rw [ch_or]
theorem arr8_rnd (r : R8) (t u : UInt32) : (((((((((arr8 r).setIfInBounds 7 (.int .u32 (nat r.g))).setIfInBounds 6 (.int .u32 (nat r.f))).setIfInBounds 5 (.int .u32 (nat r.e))).setIfInBounds 4 (.int .u32 (nat (r.d + t)))).setIfInBounds 3 (.int .u32 (nat r.c))).setIfInBounds 2 (.int .u32 (nat r.b))).setIfInBounds 1 (.int .u32 (nat r.a))).setIfInBounds 0 (.int .u32 (nat (t + u)))) = arr8 ⟨t + u, r.a, r.b, r.c, r.d + t, r.e, r.f, r.g⟩ := by simp [arr8]

/-- The eight stores of a round. -/
def eight (w : World) (g : Nat) (r : R8) (t u : UInt32) : World :=
  (((((((w.setCell ⟨g, 7, none⟩ (.int .u32 (nat r.g))).setCell ⟨g, 6, none⟩ (.int .u32 (nat r.f))).setCell ⟨g, 5, none⟩ (.int .u32 (nat r.e))).setCell ⟨g, 4, none⟩ (.int .u32 (nat (r.d + t)))).setCell ⟨g, 3, none⟩ (.int .u32 (nat r.c))).setCell ⟨g, 2, none⟩ (.int .u32 (nat r.b))).setCell ⟨g, 1, none⟩ (.int .u32 (nat r.a))).setCell ⟨g, 0, none⟩ (.int .u32 (nat (t + u)))
theorem eight_same {w : World} {g : Nat} {T : TypeId} {r : R8} (h : ArrAt w g T (arr8 r)) (t u : UInt32) : ArrAt (eight w g r t u) g T (arr8 ⟨t + u, r.a, r.b, r.c, r.d + t, r.e, r.f, r.g⟩) := by
  rw [← arr8_rnd]
  exact (((((((h.setCell_same 7 _).setCell_same 6 _).setCell_same 5 _).setCell_same 4 _).setCell_same 3 _).setCell_same 2 _).setCell_same 1 _).setCell_same 0 _
theorem eight_other {w : World} {g g' : Nat} {T : TypeId} {A : Array Value} (h : ArrAt w g' T A) (hne : g' ≠ g) (r : R8) (t u : UInt32) : ArrAt (eight w g r t u) g' T A :=
  (((((((h.setCell_other (a := ⟨g, 7, none⟩) hne _).setCell_other (a := ⟨g, 6, none⟩) hne _).setCell_other (a := ⟨g, 5, none⟩) hne _).setCell_other (a := ⟨g, 4, none⟩) hne _).setCell_other (a := ⟨g, 3, none⟩) hne _).setCell_other (a := ⟨g, 2, none⟩) hne _).setCell_other (a := ⟨g, 1, none⟩) hne _).setCell_other (a := ⟨g, 0, none⟩) hne _
theorem eight_below {w w' : World} {B g : Nat} (h : Below B w w') (hg : B ≤ g) (r : R8) (t u : UInt32) : Below B w (eight w' g r t u) :=
  (((((((h.setCell (p := ⟨g, 7, none⟩) hg _).setCell (p := ⟨g, 6, none⟩) hg _).setCell (p := ⟨g, 5, none⟩) hg _).setCell (p := ⟨g, 4, none⟩) hg _).setCell (p := ⟨g, 3, none⟩) hg _).setCell (p := ⟨g, 2, none⟩) hg _).setCell (p := ⟨g, 1, none⟩) hg _).setCell (p := ⟨g, 0, none⟩) hg _

end Go.Proofs.Ytdeologdmdimoaa.Sh
