/- A map with texts for keys, laid entry by entry, looked up. -/
import Derived.Test.YtlhokhccjejcoaaTz
import Derived.MapKept
namespace Go.Proofs.Ytlhokhccjejcoaa.Mpl
open Go.RowKit Go.MapKept Go.Proofs.Ytlhokhccjejcoaa.Tx

theorem mup {P : Program} {w : World} {mt kt e : TypeId} {r clock : Nat} {es : Array MapEntry} (k : ByteArray) (v : Value) (hm : P.underlying mt = some (.map kt e)) (hk : P.underlying kt = some .string) (hb : w.heap[r]? = some (.map es clock)) (hf : Instr.findNow .string (.string k) es.toList 0 = some none) :
    ∃ w', (Instr.mapUpdate mt (.map (some r)) (.string k) v).run P w = .ok () w' ∧ w'.heap[r]? = some (.map (es.push ⟨.string k, v, clock⟩) (clock + 1)) ∧ ∀ {B : Nat} {w0 : World}, Below B w0 w → B ≤ r → Below B w0 w' := by
  refine ⟨{ w with heap := w.heap.setIfInBounds r (.map (es.push ⟨.string k, v, clock⟩) (clock + 1)) }, ?_, (heap_set hb).1, fun h hB => ⟨h.os, h.tape, h.output, by simpa using h.size, fun j hj => ?_⟩⟩
  · simp [Instr.mapUpdate, run_underlying hm, Go.MapKept.run_getObj_map hb, run_checkKey hk (k := .string k) trivial, run_findKey hk hf, run_setObj_map _ hb, Result.andThen]
  · exact ((heap_set hb).2 j (by omega)).trans (h.block j hj)
theorem mlk_some {P : Program} {w : World} {mt kt e : TypeId} {r clock i : Nat} {es : Array MapEntry} {a : ByteArray} {v : Value} (hm : P.underlying mt = some (.map kt e)) (hk : P.underlying kt = some .string) (hb : w.heap[r]? = some (.map es clock)) (hf : Instr.findNow .string (.string a) es.toList 0 = some (some (i, v))) :
    (Instr.lookup mt (.map (some r)) (.string a) true).run P w = .ok (.tuple #[v, .bool true]) w := by
  simp [Instr.lookup, run_underlying hm, Go.MapKept.run_getObj_map hb, run_checkKey hk (k := .string a) trivial, run_findKey hk hf, Result.andThen]
theorem mlk_none {P : Program} {w : World} {mt kt e : TypeId} {r clock : Nat} {es : Array MapEntry} {a : ByteArray} {z : Value} (hm : P.underlying mt = some (.map kt e)) (hk : P.underlying kt = some .string) (hb : w.heap[r]? = some (.map es clock)) (hf : Instr.findNow .string (.string a) es.toList 0 = some none) (hz : (zeroValue e).run P w = .ok z w) :
    (Instr.lookup mt (.map (some r)) (.string a) true).run P w = .ok (.tuple #[z, .bool false]) w := by
  simp [Instr.lookup, run_underlying hm, Go.MapKept.run_getObj_map hb, run_checkKey hk (k := .string a) trivial, run_findKey hk hf, Result.andThen, hz]
theorem made {P : Program} {w : World} (t : TypeId) : (Instr.makeMap t none).run P w = .ok (.map (some w.heap.size)) (w.alloc (.map #[] 0)) := rfl
theorem bb {a b : ByteArray} (h : a ≠ b) : (a == b) = false := by
  cases a; cases b
  rename_i x y
  show (x == y) = false
  exact beq_eq_false_iff_ne.2 fun e => h (by rw [e])
theorem find_no {a k : ByteArray} {v : Value} {c : Nat} {es : List MapEntry} {i : Nat} (h : a ≠ k) : Instr.findNow .string (.string a) (⟨.string k, v, c⟩ :: es) i = Instr.findNow .string (.string a) es (i + 1) := by
  simp only [Instr.findNow, Instr.sameNow, bb h]
theorem find_yes {k : ByteArray} {v : Value} {c : Nat} {es : List MapEntry} {i : Nat} : Instr.findNow .string (.string k) (⟨.string k, v, c⟩ :: es) i = some (some (i, v)) := by
  have : (k == k) = true := by cases k; rename_i x; show (x == x) = true; exact beq_self_eq_true x
  simp only [Instr.findNow, Instr.sameNow, this]
end Go.Proofs.Ytlhokhccjejcoaa.Mpl
