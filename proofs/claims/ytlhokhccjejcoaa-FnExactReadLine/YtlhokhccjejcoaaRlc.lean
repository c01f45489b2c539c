/- The act of a line's words, of the specification; ReadLine of the specification. -/
import Derived.Test.YtlhokhccjejcoaaRlb
import Derived.Deep.QuietTactic
import Derived.BigQuiet
namespace Go.Proofs.Ytlhokhccjejcoaa.Rl16
open Go.RowKit Go.Lib Go.Proofs.Ytlhokhccjejcoaa.Ap Go.Proofs.Ytlhokhccjejcoaa.Tx
open Go.Proofs.Ytlhokhccjejcoaa.Gr12 (nV nB l00Number_any)

def wa1 : ByteArray := ⟨#[97, 99, 113, 117, 105, 114, 101]⟩
def wa2 : ByteArray := ⟨#[114, 101, 108, 101, 97, 115, 101]⟩
def wa3 : ByteArray := ⟨#[114, 101, 110, 101, 119]⟩
def wa4 : ByteArray := ⟨#[113, 117, 101, 114, 121]⟩
def waT : ByteArray := ⟨#[116, 105, 109, 101, 111, 117, 116]⟩
/-- The operation that a word names; 0 of others. -/
def opOf (a : ByteArray) : Int := if a = wa1 then 1 else if a = wa2 then 2 else if a = wa3 then 3 else if a = wa4 then 4 else 0
/-- An act, field by field. -/
def waC (kd cl op le : Int) (nm : ByteArray) (gk gn : Int) : Array Value := #[.int .i64 kd, .int .i64 cl, .int .i64 0, .int .i64 0, .int .i64 op, .int .i64 le, .string nm, .int .i64 gk, .int .i64 gn, .int .i64 0, .int .i64 0, .int .i64 0, .int .i64 0, .int .i64 0, .string ⟨#[]⟩, .int .i64 0, .int .i64 0, .int .i64 0, .int .i64 0, .string ⟨#[]⟩, .string ⟨#[]⟩, .string ⟨#[]⟩, .int .i64 0, .int .i64 0, .int .i64 0, .int .i64 0]
def waZ : Array Value := waC 0 0 0 0 ⟨#[]⟩ 0 0
theorem row_at {w : World} {v : Value} {ts : List ByteArray} (h : RowT w v ts) (hne : ts ≠ []) : ∃ b o c, v = .slice (some ⟨b, o, none⟩) ts.length c ∧ ts.length ≤ c ∧ ∀ i x, ts[i]? = some x → w.cell? ⟨b, o + i, none⟩ = some (.string x) := by
  obtain ⟨a, c, rfl, h⟩ := h
  rcases h with h | ⟨b, o, rfl, hc, hb, hcell⟩
  · exact absurd h hne
  · refine ⟨b, o, c, rfl, hc, fun i x hi => ?_⟩
    have hl := (List.getElem?_eq_some_iff.1 hi).1
    rw [hcell i hl]
    have := tnth_at hl
    rw [hi] at this
    cases this
    rfl
/-- The client that a number names. -/
def mnI (x : Int) : Int := 10 + if 1000 < x then 1000 else x
/-- The act that a line's words tell. -/
def rlA : List ByteArray → Option (Array Value)
  | [a, b] => if a = waT ∧ nB b = true then some (waC 1 0 0 0 ⟨#[]⟩ 5 (nV b)) else none
  | [a, b, c] => if opOf a ≠ 0 ∧ nB b = true then some (waC 2 (mnI (nV b)) (opOf a) 0 c 0 0) else none
  | [a, b, c, d] => if opOf a ≠ 0 ∧ nB b = true ∧ nB d = true then some (waC 2 (mnI (nV b)) (opOf a) (nV d) c 0 0) else none
  | _ => none
/-- What reading a line's words answers. -/
def RdP (ts : List ByteArray) (e : Ending) : Prop := ∃ kd cl op le nm gk gn ok, e = .returned (.tuple #[.agg (waC kd cl op le nm gk gn), .bool ok]) ∧ ok = (rlA ts).isSome ∧ ∀ U, rlA ts = some U → waC kd cl op le nm gk gn = U
theorem rdP {ts : List ByteArray} {kd cl op le : Int} {nm : ByteArray} {gk gn : Int} {ok : Bool} (h1 : ok = (rlA ts).isSome) (h2 : ∀ U, rlA ts = some U → waC kd cl op le nm gk gn = U) : RdP ts (.returned (.tuple #[.agg (waC kd cl op le nm gk gn), .bool ok])) := ⟨kd, cl, op, le, nm, gk, gn, ok, rfl, h1, h2⟩
end Go.Proofs.Ytlhokhccjejcoaa.Rl16
