/- From arguments as the row opens them to what the walks ask: chains, signatures, bytes. -/
import Derived.Test.YtimmeclclilpdaaGreatDoorRows
import Derived.WalkKit
import Derived.ProofKit
import Derived.OpenShut
import Derived.Deep.Fields
import Derived.Test.YtimmeclclilpdaaGreatDoorTz
import Derived.SliceStrings
namespace Go.Proofs.YtimmeclclilpdaaGreatDoor.Op
open Go.ChangeShapes Go.WideShapes Go.ChangeAt Go.RowKit Go.Deep

section
variable {H : Type} {enc : TypeId × Value → H} {P : Program} {w : World} {base : Nat} {spare : Nat → Bool} {held : Bool}
/-- A struct of one-cell fields, by value: its cells, each with its reading. -/
theorem open_cells {r : Reach} {b0 : Nat} {t : TypeId} {fs : Array Field} {v : Value} {d : DataW H} {p : List MemPlace} (hs : P.underlying t = some (.struct fs)) (hone : oneCellFields P fs = true)
    (hv : Value.okWide P w r b0 t v) (h : DataW.Trod enc P w base spare held t v d p) :
    ∃ cs : Array Value, v = .agg cs ∧ cs.size = P.cellsOf t ∧ ∀ (i : Nat) (f : Field) (c : Value), fs[i]? = some f → cs[i]? = some c → ∃ n y, DataW.trod enc P w base spare held n f.type [c] = some y := by
  obtain ⟨cs, rfl, hsz⟩ := okWide_struct hs hv
  obtain ⟨fuel, hf⟩ := h
  obtain ⟨xs, n, _, _, hl, hlen, hfs⟩ := DataW.trod_struct hs hf
  refine ⟨cs, rfl, hsz, fun i f c hi hc => ?_⟩
  obtain ⟨o, k⟩ := hone_of hone i f hi
  have h1 := hfs i f hi
  have hix : i < xs.length := by rw [hlen]; exact (Array.getElem?_eq_some_iff.1 hi).1
  rw [List.getElem?_eq_getElem hix, o, k] at h1
  have h2 : (((Value.agg cs).cells.toList).drop i).take 1 = [c] := by
    have h3 : cs.toList[i]? = some c := by simpa using hc
    have hlt : i < cs.toList.length := (List.getElem?_eq_some_iff.1 h3).1
    rw [show (Value.agg cs).cells = cs from rfl, List.drop_eq_getElem_cons hlt, (List.getElem?_eq_some_iff.1 h3).2]
    rfl
  rw [h2] at h1
  exact ⟨n, _, h1⟩
theorem cell_int {k : IntKind} {t : TypeId} {c : Value} (ht : P.underlying t = some (.int k)) (h : ∃ n y, DataW.trod enc P w base spare held n t [c] = some y) : ∃ a, c = .int k a ∧ (Lit.int k a).wf = true := by
  obtain ⟨n, y, h⟩ := h
  obtain ⟨a, h1, _, h2⟩ := DataW.trod_int ht h
  exact ⟨a, by simpa using h1, h2⟩
theorem cell_string {t : TypeId} {c : Value} (ht : P.underlying t = some .string) (h : ∃ n y, DataW.trod enc P w base spare held n t [c] = some y) : ∃ s : ByteArray, c = .string s ∧ s.size ≤ maxLen := by
  obtain ⟨n, y, h⟩ := h
  obtain ⟨s, h1, _, h2⟩ := DataW.trod_string ht h
  exact ⟨s, by simpa using h1, h2⟩
end
theorem i64_bounds {a : Int} (h : (Lit.int .i64 a).wf = true) : -9223372036854775808 ≤ a ∧ a ≤ 9223372036854775807 := by
  simpa [Lit.wf, IntKind.min, IntKind.max, IntKind.signed, IntKind.bits] using h
theorem array2 {α : Type} {cs : Array α} (h : cs.size = 2) : ∃ c0 c1, cs = #[c0, c1] := by
  obtain ⟨l⟩ := cs
  match l, h with
  | [c0, c1], _ => exact ⟨c0, c1, rfl⟩
theorem array4 {α : Type} {cs : Array α} (h : cs.size = 4) : ∃ c0 c1 c2 c3, cs = #[c0, c1, c2, c3] := by
  obtain ⟨l⟩ := cs
  match l, h with
  | [c0, c1, c2, c3], _ => exact ⟨c0, c1, c2, c3, rfl⟩
open Go.Proofs.YtimmeclclilpdaaGreatDoor.Tx
theorem cellsStr : Tryz.prog.cellsOf 9 = 1 := by kernel_rfl
theorem cellsSig : Tryz.prog.cellsOf 108 = 4 := by kernel_rfl
theorem cell_strs {H : Type} {enc : TypeId × Value → H} {w : World} {base : Nat} {c : Value} (h : ∃ n y, DataW.trod enc Tryz.prog w base (fun _ => true) true n 35 [c] = some y) :
    ∃ ts : List ByteArray, RowT w c ts ∧ ts.length ≤ maxLen ∧ ∀ t ∈ ts, t.size ≤ maxLen := by
  obtain ⟨n, y, hf⟩ := h
  rcases open_strings Tryz.underlying35 Tryz.underlying9 cellsStr hf with ⟨hcs, _⟩ | ⟨a, len, cap, ss, hcs, _, hl, hm, hlen, _, hcell, hws⟩
  · simp at hcs
    subst hcs
    exact ⟨[], ⟨none, 0, rfl, .inl rfl⟩, Nat.zero_le _, fun t ht => by cases ht⟩
  · simp at hcs
    subst hcs
    simp at hlen
    have hlt : (ss.take len).length = len := by rw [List.length_take]; omega
    refine ⟨ss.take len, ⟨some a, cap, by rw [hlt], ?_⟩, by rw [hlt]; omega, fun t ht => hws t (List.mem_of_mem_take ht)⟩
    by_cases h0 : len = 0
    · exact .inl (by rw [h0]; rfl)
    · obtain ⟨b, off, spot⟩ := a
      have hc := hcell 0 (by omega)
      have hspot : spot = none := by simpa [Addr.add] using World.cell?_spot hc
      subst hspot
      refine .inr ⟨b, off, rfl, by rw [hlt]; omega, ?_, fun i hi => ?_⟩
      · have hc0 : w.cell? ⟨b, off, none⟩ = some (.string (ss.getD 0 ByteArray.empty)) := by simpa [Addr.add] using hc
        exact World.block_lt_of_cell? w _ hc0
      · rw [hlt] at hi
        have h1 := hcell i (by omega)
        rw [Ap.addr_add] at h1
        rw [h1]
        unfold tnth
        rw [List.getD_eq_getElem?_getD, List.getD_eq_getElem?_getD, List.getElem?_take_of_lt hi]
        rfl
set_option maxRecDepth 100000 in
theorem open_sig {H : Type} {enc : TypeId × Value → H} {w : World} {base : Nat} {spare : Nat → Bool} {r : Reach} {b0 : Nat} {v : Value} {d : DataW H} {p : List MemPlace}
    (hv : Value.okWide Tryz.prog w r b0 108 v) (h : DataW.Trod enc Tryz.prog w base spare true 108 v d p) (hs : ∀ b, spare b = true) :
    ∃ (i : Int) (ua ub uc : Value) (ta tb tc : List ByteArray), v = .agg #[.int .i64 i, ua, ub, uc] ∧ (RowT w ua ta ∧ RowT w ub tb ∧ RowT w uc tc) ∧ (ta.length ≤ maxLen ∧ tb.length ≤ maxLen ∧ tc.length ≤ maxLen) ∧ (∀ t ∈ ta, t.size ≤ maxLen) ∧ (∀ t ∈ tb, t.size ≤ maxLen) ∧ ∀ t ∈ tc, t.size ≤ maxLen := by
  have hsp : spare = fun _ => true := funext hs
  subst hsp
  obtain ⟨cs, rfl, hsz, hf⟩ := open_cells Tryz.underlying108 (by kernel_rfl) hv h
  obtain ⟨c0, c1, c2, c3, rfl⟩ := array4 (hsz.trans cellsSig)
  obtain ⟨a0, rfl, _⟩ := cell_int Tryz.underlying3 (hf 0 _ _ rfl rfl)
  obtain ⟨ta, ra, la, za⟩ := cell_strs (hf 1 _ _ rfl rfl)
  obtain ⟨tb, rb, lb, zb⟩ := cell_strs (hf 2 _ _ rfl rfl)
  obtain ⟨tc, rc, lc, zc⟩ := cell_strs (hf 3 _ _ rfl rfl)
  exact ⟨a0, c1, c2, c3, ta, tb, tc, rfl, ⟨ra, rb, rc⟩, ⟨la, lb, lc⟩, za, zb, zc⟩
end Go.Proofs.YtimmeclclilpdaaGreatDoor.Op
