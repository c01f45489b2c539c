/- Readings in a slice: read, measured, copied, compared. -/
import Derived.Test.YtddmdnljfnimbaaGreatDoorTz
import Derived.Deep.Slices
import Derived.Deep.Fields23
import Derived.OpenShut
import Derived.Deep.RegionLaw
import Derived.BigRegion
namespace Go.Proofs.YtddmdnljfnimbaaGreatDoor.Rw
open Go.RowKit Go.Proofs.YtddmdnljfnimbaaGreatDoor.Sl Go.Proofs.YtddmdnljfnimbaaGreatDoor.Ap Go.Proofs.YtddmdnljfnimbaaGreatDoor.Tx

/-- A reading. -/
structure Rd where
  f : Int
  x : Int
  m : ByteArray
instance : Inhabited Rd := ⟨⟨0, 0, ⟨#[]⟩⟩⟩
def rn (rs : List Rd) (i : Nat) : Rd := rs.getD i ⟨0, 0, ⟨#[]⟩⟩
theorem rn_at {rs : List Rd} {i : Nat} (h : i < rs.length) : rs[i]? = some (rn rs i) := by
  unfold rn; rw [List.getD_eq_getElem?_getD, List.getElem?_eq_getElem h]; rfl
theorem rn_mem {rs : List Rd} {i : Nat} (h : i < rs.length) : rn rs i ∈ rs := List.mem_of_getElem? (rn_at h)
/-- The cells from off on in block b are those of the readings rs. -/
def CellsR (w : World) (b off : Nat) (rs : List Rd) : Prop :=
  ∀ i, i < rs.length → w.cell? ⟨b, off + i * 3, none⟩ = some (.int .i64 (rn rs i).f) ∧ w.cell? ⟨b, off + i * 3 + 1, none⟩ = some (.int .i64 (rn rs i).x) ∧ w.cell? ⟨b, off + i * 3 + 2, none⟩ = some (.string (rn rs i).m)
/-- The slice v holds the readings rs. -/
def RowR (w : World) (v : Value) (rs : List Rd) : Prop :=
  ∃ a cap, v = .slice a rs.length cap ∧ (rs = [] ∨ ∃ b off, a = some ⟨b, off, none⟩ ∧ rs.length ≤ cap ∧ b < w.heap.size ∧ CellsR w b off rs)
theorem CellsR.below {w w' : World} {b off : Nat} {rs : List Rd} (h : CellsR w b off rs) (hb : Below w.heap.size w w') (hlt : b < w.heap.size) : CellsR w' b off rs := fun i hi => by
  obtain ⟨h1, h2, h3⟩ := h i hi
  exact ⟨(hb.cell (p := ⟨b, _, none⟩) hlt).trans h1, (hb.cell (p := ⟨b, _, none⟩) hlt).trans h2, (hb.cell (p := ⟨b, _, none⟩) hlt).trans h3⟩
theorem RowR.below {w w' : World} {v : Value} {rs : List Rd} (h : RowR w v rs) (hb : Below w.heap.size w w') : RowR w' v rs := by
  obtain ⟨a, cap, rfl, h⟩ := h
  refine ⟨a, cap, rfl, ?_⟩
  rcases h with h | ⟨b, off, rfl, hc, hlt, h⟩
  · exact .inl h
  · exact .inr ⟨b, off, rfl, hc, Nat.lt_of_lt_of_le hlt hb.size, h.below hb hlt⟩
theorem ret_i {a b : Int} (h : a = b) : Ending.returned (.int .i64 a) = .returned (.int .i64 b) := by rw [h]
def SzOk (r : Int) (l s : Nat) : Prop := r = -1 ∨ ∃ q : Nat, r = q ∧ q ≤ l ∧ s ≤ l
theorem info3r : (Tryz.prog.info? 122).map (fun i => (i.zero, i.size, i.bytes)) = some (some (.agg #[.int .i64 0, .int .i64 0, .string ⟨#[]⟩]), 3, 32) := by kernel_rfl
/-- The copy: the cells of its first k readings are written. -/
def Cop (rs : List Rd) (k : Nat) (A : Array Value) : Prop := A.size = rs.length * 3 ∧ ∀ j, j < k → A[j * 3]? = some (.int .i64 (rn rs j).f) ∧ A[j * 3 + 1]? = some (.int .i64 (rn rs j).x) ∧ A[j * 3 + 2]? = some (.string (rn rs j).m)
theorem cop_step {rs : List Rd} {k : Nat} {A : Array Value} (h : Cop rs k A) (hk : k < rs.length) :
    Cop rs (k + 1) (((A.setIfInBounds (k * 3) (.int .i64 (rn rs k).f)).setIfInBounds (k * 3 + 1) (.int .i64 (rn rs k).x)).setIfInBounds (k * 3 + 2) (.string (rn rs k).m)) := by
  refine ⟨by simpa using h.1, fun j hj => ?_⟩
  have hs := h.1
  simp only [Array.getElem?_setIfInBounds, Array.size_setIfInBounds]
  by_cases e : j = k
  · subst e
    refine ⟨?_, ?_, ?_⟩
    · rw [if_neg (by omega), if_neg (by omega), if_pos rfl, if_pos (by omega)]
    · rw [if_neg (by omega), if_pos rfl, if_pos (by omega)]
    · rw [if_pos rfl, if_pos (by omega)]
  · obtain ⟨h1, h2, h3⟩ := h.2 j (by omega)
    refine ⟨?_, ?_, ?_⟩
    · rw [if_neg (by omega), if_neg (by omega), if_neg (by omega)]; exact h1
    · rw [if_neg (by omega), if_neg (by omega), if_neg (by omega)]; exact h2
    · rw [if_neg (by omega), if_neg (by omega), if_neg (by omega)]; exact h3
end Go.Proofs.YtddmdnljfnimbaaGreatDoor.Rw
namespace Go.Proofs.YtddmdnljfnimbaaGreatDoor.Op
open Go.ChangeShapes Go.WideShapes Go.ChangeAt Go.RowKit Go.Deep
end Go.Proofs.YtddmdnljfnimbaaGreatDoor.Op
