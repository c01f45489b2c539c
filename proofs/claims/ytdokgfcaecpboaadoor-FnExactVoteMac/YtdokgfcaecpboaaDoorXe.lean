/- VoteMac, of the program and of the specification. -/
import Derived.Test.YtdokgfcaecpboaaDoorXa
namespace Go.Proofs.YtdokgfcaecpboaaDoor.Xv
open Go.RowKit Go.Proofs.YtdokgfcaecpboaaDoor.Sl Go.Proofs.YtdokgfcaecpboaaDoor.By Go.Proofs.YtdokgfcaecpboaaDoor.Ap Go.Proofs.YtdokgfcaecpboaaDoor.Tx Go.Proofs.YtdokgfcaecpboaaDoor.Sh Go.Proofs.YtdokgfcaecpboaaDoor.Ho Go.Proofs.YtdokgfcaecpboaaDoor.Mr Go.Proofs.YtdokgfcaecpboaaDoor.Rm

/-- What VoteMac answers. -/
def vmCode (f sq sz : Int) (rt : ByteArray) : Int := if 65536 < rt.size then 2 else if inR f 0 6 then (if vok sq sz rt then 0 else 1) else 4
def vmOut (f sq sz : Int) (rt : ByteArray) : ByteArray := if 65536 < rt.size then ⟨#[]⟩ else if inR f 0 6 && vok sq sz rt then vmk f.toNat sq sz rt else ⟨#[]⟩
theorem vm_cases (f sq sz : Int) (rt : ByteArray) : (65536 < rt.size ∧ vmCode f sq sz rt = 2 ∧ vmOut f sq sz rt = ⟨#[]⟩) ∨ (¬ 65536 < rt.size ∧ inR f 0 6 = false ∧ vmCode f sq sz rt = 4 ∧ vmOut f sq sz rt = ⟨#[]⟩) ∨ (¬ 65536 < rt.size ∧ inR f 0 6 = true ∧ vok sq sz rt = false ∧ vmCode f sq sz rt = 1 ∧ vmOut f sq sz rt = ⟨#[]⟩) ∨ (∃ i : Nat, f = i ∧ i < 7 ∧ ¬ 65536 < rt.size ∧ rt.size ≤ 1000 ∧ inR f 0 6 = true ∧ vok sq sz rt = true ∧ vmCode f sq sz rt = 0 ∧ vmOut f sq sz rt = vmk i sq sz rt) := by
  unfold vmCode vmOut
  by_cases h0 : 65536 < rt.size
  · exact .inl ⟨h0, if_pos h0, if_pos h0⟩
  rw [if_neg h0, if_neg h0]
  cases h1 : inR f 0 6 with
  | false => exact .inr (.inl ⟨h0, rfl, rfl, rfl⟩)
  | true =>
    cases h2 : vok sq sz rt with
    | false => exact .inr (.inr (.inl ⟨h0, rfl, rfl, rfl, rfl⟩))
    | true =>
      obtain ⟨a, b⟩ := inR_nat h1
      obtain ⟨i, rfl⟩ := Int.eq_ofNat_of_zero_le a
      have := (vok_size h2).1
      exact .inr (.inr (.inr ⟨i, rfl, by omega, h0, by omega, rfl, rfl, rfl, rfl⟩))
set_option maxRecDepth 100000 in
set_option maxHeartbeats 800000 in
theorem implVoteMac_any (f sq sz : Int) (rt : ByteArray) (w : World) (hl : rt.size ≤ 1048576) (hK : KTab w) (hp : 1 < w.heap.size) :
    Calls Tryd.prog 7 #[.int .i64 f, .int .i64 sq, .int .i64 sz, .string rt] w fun e w' => e = .returned (.tuple #[.string (vmOut f sq sz rt), .int .i64 (vmCode f sq sz rt)]) ∧ Below w.heap.size w w' := by
  have GK : Hid (KTab w ∧ 1 < w.heap.size) := ⟨hK, hp⟩
  clear hK hp
  have HB : Hid (∀ o, Below w.heap.size w (w.alloc o)) := fun o => bel_new w o
  rcases vm_cases f sq sz rt with ⟨h0, e1, e2⟩ | ⟨h0, h1, e1, e2⟩ | ⟨h0, h1, h2, e1, e2⟩ | ⟨i, rfl, hi, h0, hs, h1, h2, e1, e2⟩
  · have HE : Hid (vmOut f sq sz rt = ⟨#[]⟩ ∧ vmCode f sq sz rt = 2) := ⟨e2, e1⟩
    have h0' : (65536 : Int) < (rt.size : Int) := by omega
    clear e1 e2 h0
    go_enter Tryd.func7, Tryd.ntmps7
    go_wp2_with fail
    go_ret2
    exact ⟨ret_sc ⟨HE.out.1.symm, HE.out.2.symm⟩, Below.refl _ _⟩
  · have HE : Hid (vmOut f sq sz rt = ⟨#[]⟩ ∧ vmCode f sq sz rt = 4) := ⟨e2, e1⟩
    have h0' : ¬ (65536 : Int) < (rt.size : Int) := by omega
    clear e1 e2 h0
    go_enter Tryd.func7, Tryd.ntmps7
    go_wp2_with (go_at_call 23; refine (nodeOK_any _ _).mono ?_; rintro e w1 ⟨rfl, rfl⟩; rw [h1])
    go_ret2
    exact ⟨ret_sc ⟨HE.out.1.symm, HE.out.2.symm⟩, Below.refl _ _⟩
  · have HE : Hid (vmOut f sq sz rt = ⟨#[]⟩ ∧ vmCode f sq sz rt = 1) := ⟨e2, e1⟩
    have h0' : ¬ (65536 : Int) < (rt.size : Int) := by omega
    clear e1 e2 h0
    go_enter Tryd.func7, Tryd.ntmps7
    go_wp2_with (first | (go_at_call 23; refine (nodeOK_any _ _).mono ?_; rintro e w1 ⟨rfl, rfl⟩; rw [h1]) | fail)
    refine (votable_any sq sz rt _ _).mono ?_
    rintro e w1 ⟨rfl, b1⟩
    rw [h2]
    have G1 : Hid (Below w.heap.size w w1) := (HB.out _).trans (b1.mono (HB.out _).size)
    clear b1
    go_wp2_with fail
    go_ret2
    exact ⟨ret_sc ⟨HE.out.1.symm, HE.out.2.symm⟩, G1.out⟩
  · have HE : Hid (vmOut i sq sz rt = vmk i sq sz rt ∧ vmCode i sq sz rt = 0) := ⟨e2, e1⟩
    have h0' : ¬ (65536 : Int) < (rt.size : Int) := by omega
    clear e1 e2 h0
    go_enter Tryd.func7, Tryd.ntmps7
    go_wp2_with (first | (go_at_call 23; refine (nodeOK_any _ _).mono ?_; rintro e w1 ⟨rfl, rfl⟩; rw [h1]) | fail)
    refine (votable_any sq sz rt _ _).mono ?_
    rintro e w1 ⟨rfl, b1⟩
    rw [h2]
    have k1 := (b1.block w.heap.size (by simp)).trans (heap_alloc_new w _)
    have c0 := (blk_cell k1 0 rfl).1
    have c1 := (blk_cell k1 1 rfl).1
    have c2 := (blk_cell k1 2 rfl).1
    have c3 := (blk_cell k1 3 rfl).1
    have G1 : Hid (Below w.heap.size w w1) := (HB.out _).trans (b1.mono (HB.out _).size)
    clear b1 k1
    go_wp2_with fail
    refine (voteMark_any i sq sz rt _ w1 (by omega) hs (GK.out.1.below G1.out GK.out.2) (Nat.lt_of_lt_of_le GK.out.2 G1.out.size)).mono ?_
    rintro e w2 ⟨rfl, b2⟩
    have G2 : Hid (Below w.heap.size w w2) := G1.out.trans (b2.mono G1.out.size)
    clear b2 c0 c1 c2 c3
    go_wp2_with fail
    go_ret2
    exact ⟨ret_sc ⟨HE.out.1.symm, HE.out.2.symm⟩, G2.out⟩
set_option maxRecDepth 100000 in
set_option maxHeartbeats 800000 in
theorem specVoteMac_any (f sq sz : Int) (rt : ByteArray) (w : World) (hl : rt.size ≤ 1048576) :
    Calls Tryd.prog 6 #[.int .i64 f, .int .i64 sq, .int .i64 sz, .string rt] w fun e w' => e = .returned (.tuple #[.string (vmOut f sq sz rt), .int .i64 (vmCode f sq sz rt)]) ∧ Below w.heap.size w w' := by
  rcases vm_cases f sq sz rt with ⟨h0, e1, e2⟩ | ⟨h0, h1, e1, e2⟩ | ⟨h0, h1, h2, e1, e2⟩ | ⟨i, rfl, hi, h0, hs, h1, h2, e1, e2⟩
  · have HE : Hid (vmOut f sq sz rt = ⟨#[]⟩ ∧ vmCode f sq sz rt = 2) := ⟨e2, e1⟩
    have h0' : (65536 : Int) < (rt.size : Int) := by omega
    clear e1 e2 h0
    go_enter Tryd.func6, Tryd.ntmps6
    go_wp2_with fail
    go_ret2
    exact ⟨ret_sc ⟨HE.out.1.symm, HE.out.2.symm⟩, Below.refl _ _⟩
  · have HE : Hid (vmOut f sq sz rt = ⟨#[]⟩ ∧ vmCode f sq sz rt = 4) := ⟨e2, e1⟩
    have h0' : ¬ (65536 : Int) < (rt.size : Int) := by omega
    clear e1 e2 h0
    go_enter Tryd.func6, Tryd.ntmps6
    go_wp2_with (go_at_call 20; refine (l01In_any _ _ _ _).mono ?_; rintro e w1 ⟨rfl, rfl⟩; rw [h1])
    go_ret2
    exact ⟨ret_sc ⟨HE.out.1.symm, HE.out.2.symm⟩, Below.refl _ _⟩
  · have HE : Hid (vmOut f sq sz rt = ⟨#[]⟩ ∧ vmCode f sq sz rt = 1) := ⟨e2, e1⟩
    have h0' : ¬ (65536 : Int) < (rt.size : Int) := by omega
    clear e1 e2 h0
    go_enter Tryd.func6, Tryd.ntmps6
    go_wp2_with (first | (go_at_call 20; refine (l01In_any _ _ _ _).mono ?_; rintro e w1 ⟨rfl, rfl⟩; rw [h1]) | (go_at_call 21; refine (l10Ask_any _ _ _ _).mono ?_; rintro e w1 ⟨rfl, rfl⟩; rw [h2]))
    go_ret2
    exact ⟨ret_sc ⟨HE.out.1.symm, HE.out.2.symm⟩, Below.refl _ _⟩
  · have HE : Hid (vmOut i sq sz rt = vmk i sq sz rt ∧ vmCode i sq sz rt = 0) := ⟨e2, e1⟩
    have h0' : ¬ (65536 : Int) < (rt.size : Int) := by omega
    clear e1 e2 h0
    go_enter Tryd.func6, Tryd.ntmps6
    go_wp2_with (first | (go_at_call 20; refine (l01In_any _ _ _ _).mono ?_; rintro e w1 ⟨rfl, rfl⟩; rw [h1]) | (go_at_call 21; refine (l10Ask_any _ _ _ _).mono ?_; rintro e w1 ⟨rfl, rfl⟩; rw [h2]) | fail)
    refine (l10Mac_any i sq sz rt w (by omega) hs).mono ?_
    rintro e w2 ⟨rfl, b2⟩
    go_wp2_with fail
    go_ret2
    exact ⟨ret_sc ⟨HE.out.1.symm, HE.out.2.symm⟩, b2⟩
end Go.Proofs.YtdokgfcaecpboaaDoor.Xv
