/- A strings.Builder that the call has made: what is written, what it tells. -/
import Derived.Test.YtimmeclclilpdaaDoorShelf
import Derived.Shelf.Strings.Builder1
import Derived.Below
namespace Go.Proofs.YtimmeclclilpdaaDoor.Bd12
open Go.Shelf Go.RowKit

/-- The builder in block b (the call's own: from B on) holds these bytes. -/
def Bu (w : World) (B b : Nat) (l : List UInt8) : Prop := Lib.IsBuilder 75 5 B b (Lib.byteCells l) w
theorem at_up {w w' : World} {B b : Nat} {p : Value} {bs : List Value} (h : Lib.BuilderAt 75 5 B b p bs w) (hb : Below w.heap.size w w') : Lib.BuilderAt 75 5 B b p bs w' := by
  have hlt := h.lt
  obtain ⟨h1, v, h2, h3, h4⟩ := h
  refine ⟨h1, v, (hb.block b hlt).trans h2, ⟨h3.1, ?_⟩, h4⟩
  rcases h3.2 with h | ⟨g, cap, cur, e1, e2, e3, e4⟩
  · exact .inl h
  · exact .inr ⟨g, cap, cur, e1, e2, (hb.block g (Array.getElem?_eq_some_iff.1 e3).1).trans e3, e4⟩
theorem Bu.up {w w' : World} {B b : Nat} {l : List UInt8} (h : Bu w B b l) (hb : Below w.heap.size w w') : Bu w' B b l := by
  rcases h with h | h
  · exact .inl (at_up h hb)
  · exact .inr (at_up h hb)
theorem Bu.new (w : World) : Bu (w.alloc (.cells #[.pointer none, .slice none 0 0] 75)) w.heap.size w.heap.size [] := Lib.fresh_isBuilder _ _ w
theorem write_any (B b : Nat) (l : List UInt8) (s : ByteArray) (w : World) (h : Bu w B b l) (hl : l.length ≤ 1000000) (hs : s.size ≤ 1000000) (hB : B ≤ w.heap.size) :
    Calls Tryd.prog 54 #[.pointer (some ⟨b, 0, none⟩), .string s] w fun e w' => e = .returned (.tuple #[.int .i64 s.size, .nilIface]) ∧ Bu w' B b (l ++ s.data.toList) ∧ Below B w w' := by
  have hlen : (Lib.byteCells l).length = l.length := by unfold Lib.byteCells; simp
  have hc := Any.Builder_WriteString { Sf.lays156 with } Sf.extra156 B b (Lib.byteCells l) s w h (by rw [hlen]; omega) hB
  refine hc.mono fun e w' ⟨he, h1, h2⟩ => ⟨he, .inr ?_, h2⟩
  have e1 : Lib.byteCells l ++ Lib.strCells s = Lib.byteCells (l ++ s.data.toList) := by unfold Lib.byteCells Lib.strCells; simp [List.map_append]
  rw [e1] at h1
  exact h1
theorem string_any (B b : Nat) (l : List UInt8) (w : World) (h : Bu w B b l) (hB : B ≤ w.heap.size) :
    Calls Tryd.prog 56 #[.pointer (some ⟨b, 0, none⟩)] w fun e w' => e = .returned (.string ⟨l.toArray⟩) ∧ Below B w w' :=
  Any.Builder_String_any { Sf.lays156 with } Sf.extra156 B b l w h hB
end Go.Proofs.YtimmeclclilpdaaDoor.Bd12
