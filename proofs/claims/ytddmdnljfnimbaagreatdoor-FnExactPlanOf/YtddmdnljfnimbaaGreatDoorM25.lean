/- Texts put together: Wh, Opn, Opm. -/
import Derived.Test.YtddmdnljfnimbaaGreatDoorM24
import Derived.Test.YtddmdnljfnimbaaGreatDoorM2
import Derived.WalkKit
import Derived.ProofKit
import Derived.OpenShut
import Derived.Deep.Fields
import Derived.Test.YtddmdnljfnimbaaGreatDoorM3
/- Lists of certificates: what a law of theirs wants. -/
namespace Go.Proofs.YtddmdnljfnimbaaGreatDoor.Wc
open Go.RowKit Go.Proofs.YtddmdnljfnimbaaGreatDoor.Sl Go.Proofs.YtddmdnljfnimbaaGreatDoor.By Go.Proofs.YtddmdnljfnimbaaGreatDoor.Ap Go.Proofs.YtddmdnljfnimbaaGreatDoor.Gm Go.Proofs.YtddmdnljfnimbaaGreatDoor.Sh Go.Proofs.YtddmdnljfnimbaaGreatDoor.Vt Go.Proofs.YtddmdnljfnimbaaGreatDoor.Mk Go.Proofs.YtddmdnljfnimbaaGreatDoor.Tm
open Go.Proofs.YtddmdnljfnimbaaGreatDoor.Rc (OwnM OwnM.row OwnM.kept OwnM.lt OwnM.below OwnM.mono HeldM HeldM.below set_eq set_ne)
open Go.Proofs.YtddmdnljfnimbaaGreatDoor.Rg (RowG RowG.slice RowG.at lt_at mem_at blk_cell blk_set blk_far bel_new Wr)

theorem OwnC.upto {w w' : World} {B C : Nat} {v : Value} {ps : List (Ct × Value)} (h : OwnC w B v ps) (h1 : ∀ g, v.ownBlock = some g → g < C) (h2 : ∀ p ∈ ps, ∀ g, p.2.ownBlock = some g → g < C) (hb : Below C w w') : OwnC w' B v ps :=
  ⟨row_kept h.row fun g hg => hb.block g (h1 g hg), fun p hp => (h.mem p hp).kept fun g hg => hb.block g (h2 p hp g hg), h.apart⟩
theorem vc_small {n : Int} {x : Mg} {ps : List (Ct × Value)} (h : ps.map (·.1) = vcL n x) : ps.length ≤ 8 ∧ ∀ p ∈ ps, p.1.ms.length ≤ 7 := by
  have hl : (vcL n x).length ≤ 8 ∧ ∀ c ∈ vcL n x, c.ms.length ≤ 7 := by
    unfold vcL
    split
    · rename_i h0
      have hc : cfB n x.vw x = true := by
        unfold vcC at h0
        split at h0
        · cases e : cfB n x.vw x with
          | true => rfl
          | false => rw [e] at h0; simp at h0
        · cases h0
      constructor
      · unfold crts
        rw [List.length_map]
        refine Nat.le_of_not_lt fun h8 => ?_
        have := rs_eight (n := n) (view := x.vw) h8
        have h9 := (bOf_iff.1 hc).2.2.2.2.2
        rw [this] at h9
        cases h9
      · intro c hcm
        unfold crts at hcm
        obtain ⟨t, _, rfl⟩ := List.mem_map.1 hcm
        exact ms_seven _
    · exact ⟨Nat.zero_le _, fun c hc => by simp at hc⟩
  rw [← h] at hl
  rw [List.length_map] at hl
  exact ⟨hl.1, fun p hp => hl.2 _ (List.mem_map_of_mem hp)⟩
end Go.Proofs.YtddmdnljfnimbaaGreatDoor.Wc

/- From arguments as the row opens them to what the walks ask: structs by value. -/
namespace Go.Proofs.YtddmdnljfnimbaaGreatDoor.Op
open Go.ChangeShapes Go.WideShapes Go.ChangeAt Go.RowKit Go.Deep

section
variable {H : Type} {enc : TypeId × Value → H} {P : Program} {w : World} {base : Nat} {spare : Nat → Bool} {held : Bool}
/-- A struct of one-cell fields, by value: its cells, each with its reading. -/
theorem open_cells {r : Reach} {b0 : Nat} {t : TypeId} {fs : Array Field} {v : Value} {d : DataW H} {p : List MemPlace} (hs : P.underlying t = some (.struct fs)) (hone : oneCellFields P fs = true)
    (hv : Value.okWide P w r b0 t v) (h : DataW.Trod enc P w base spare held t v d p) :
    ∃ cs : Array Value, v = .agg cs ∧ cs.size = P.cellsOf t ∧ ∀ (i : Nat) (f : Field) (c : Value), fs[i]? = some f → cs[i]? = some c → ∃ n y, DataW.trod enc P w base spare held n f.type [c] = some y := by
  obtain ⟨cs, rfl, hsz⟩ := okWide_struct hs hv
  obtain ⟨fuel, hf⟩ := h
  obtain ⟨xs, n, _, _, hl, hlen, hfs⟩ := DataW.trod_struct hs hf
  refine ⟨cs, rfl, hsz, fun i f c hi hc => ?_⟩
  obtain ⟨o, k⟩ := hone_of hone i f hi
  have h1 := hfs i f hi
  have hix : i < xs.length := by rw [hlen]; exact (Array.getElem?_eq_some_iff.1 hi).1
  rw [List.getElem?_eq_getElem hix, o, k] at h1
  have h2 : (((Value.agg cs).cells.toList).drop i).take 1 = [c] := by
    have h3 : cs.toList[i]? = some c := by simpa using hc
    have hlt : i < cs.toList.length := (List.getElem?_eq_some_iff.1 h3).1
    rw [show (Value.agg cs).cells = cs from rfl, List.drop_eq_getElem_cons hlt, (List.getElem?_eq_some_iff.1 h3).2]
    rfl
  rw [h2] at h1
  exact ⟨n, _, h1⟩
theorem cell_int {k : IntKind} {t : TypeId} {c : Value} (ht : P.underlying t = some (.int k)) (h : ∃ n y, DataW.trod enc P w base spare held n t [c] = some y) : ∃ a, c = .int k a ∧ (Lit.int k a).wf = true := by
  obtain ⟨n, y, h⟩ := h
  obtain ⟨a, h1, _, h2⟩ := DataW.trod_int ht h
  exact ⟨a, by simpa using h1, h2⟩
theorem cell_string {t : TypeId} {c : Value} (ht : P.underlying t = some .string) (h : ∃ n y, DataW.trod enc P w base spare held n t [c] = some y) : ∃ s : ByteArray, c = .string s ∧ s.size ≤ maxLen := by
  obtain ⟨n, y, h⟩ := h
  obtain ⟨s, h1, _, h2⟩ := DataW.trod_string ht h
  exact ⟨s, by simpa using h1, h2⟩
end
theorem i64_bounds {a : Int} (h : (Lit.int .i64 a).wf = true) : -9223372036854775808 ≤ a ∧ a ≤ 9223372036854775807 := by
  simpa [Lit.wf, IntKind.min, IntKind.max, IntKind.signed, IntKind.bits] using h
theorem array5 {α : Type} {cs : Array α} (h : cs.size = 5) : ∃ c0 c1 c2 c3 c4, cs = #[c0, c1, c2, c3, c4] := by
  obtain ⟨l⟩ := cs
  match l, h with
  | [c0, c1, c2, c3, c4], _ => exact ⟨c0, c1, c2, c3, c4, rfl⟩
theorem array7 {α : Type} {cs : Array α} (h : cs.size = 7) : ∃ c0 c1 c2 c3 c4 c5 c6, cs = #[c0, c1, c2, c3, c4, c5, c6] := by
  obtain ⟨l⟩ := cs
  match l, h with
  | [c0, c1, c2, c3, c4, c5, c6], _ => exact ⟨c0, c1, c2, c3, c4, c5, c6, rfl⟩
end Go.Proofs.YtddmdnljfnimbaaGreatDoor.Op

/- A message by value, as the row opens it. -/
namespace Go.Proofs.YtddmdnljfnimbaaGreatDoor.Op
open Go.ChangeShapes Go.WideShapes Go.ChangeAt Go.RowKit Go.Deep
theorem cellsMsg : Tryz.prog.cellsOf 34 = 7 := by kernel_rfl

set_option maxRecDepth 100000 in
theorem open_msg {H : Type} {enc : TypeId × Value → H} {w : World} {base : Nat} {spare : Nat → Bool} {held : Bool} {r : Reach} {b0 : Nat} {v : Value} {d : DataW H} {p : List MemPlace}
    (hv : Value.okWide Tryz.prog w r b0 34 v) (h : DataW.Trod enc Tryz.prog w base spare held 34 v d p) :
    ∃ (kd vw sq fr : Int) (dg bd mc : ByteArray), v = Ms.msgV kd vw sq fr dg bd mc ∧ dg.size ≤ maxLen ∧ bd.size ≤ maxLen ∧ mc.size ≤ maxLen := by
  obtain ⟨cs, rfl, hsz, hf⟩ := open_cells Tryz.underlying34 (by kernel_rfl) hv h
  obtain ⟨c0, c1, c2, c3, c4, c5, c6, rfl⟩ := array7 (hsz.trans cellsMsg)
  obtain ⟨a0, rfl, _⟩ := cell_int Tryz.underlying3 (hf 0 _ _ rfl rfl)
  obtain ⟨a1, rfl, _⟩ := cell_int Tryz.underlying3 (hf 1 _ _ rfl rfl)
  obtain ⟨a2, rfl, _⟩ := cell_int Tryz.underlying3 (hf 2 _ _ rfl rfl)
  obtain ⟨a3, rfl, _⟩ := cell_int Tryz.underlying3 (hf 3 _ _ rfl rfl)
  obtain ⟨s0, rfl, h0⟩ := cell_string Tryz.underlying9 (hf 4 _ _ rfl rfl)
  obtain ⟨s1, rfl, h1⟩ := cell_string Tryz.underlying9 (hf 5 _ _ rfl rfl)
  obtain ⟨s2, rfl, h2⟩ := cell_string Tryz.underlying9 (hf 6 _ _ rfl rfl)
  exact ⟨a0, a1, a2, a3, s0, s1, s2, rfl, h0, h1, h2⟩
end Go.Proofs.YtddmdnljfnimbaaGreatDoor.Op
