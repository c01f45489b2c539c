/- SignMessage, of the program and of the specification. -/
import Derived.Test.YtddmdnljfnimbaaGreatDoorSm6
namespace Go.Proofs.YtddmdnljfnimbaaGreatDoor.Si
open Go.RowKit Go.Proofs.YtddmdnljfnimbaaGreatDoor.Sl Go.Proofs.YtddmdnljfnimbaaGreatDoor.By Go.Proofs.YtddmdnljfnimbaaGreatDoor.Rq Go.Proofs.YtddmdnljfnimbaaGreatDoor.Ap Go.Proofs.YtddmdnljfnimbaaGreatDoor.Sh Go.Proofs.YtddmdnljfnimbaaGreatDoor.Ho Go.Proofs.YtddmdnljfnimbaaGreatDoor.Mr Go.Proofs.YtddmdnljfnimbaaGreatDoor.Ms Go.Proofs.YtddmdnljfnimbaaGreatDoor.Mp Go.Proofs.YtddmdnljfnimbaaGreatDoor.Rp Go.Proofs.YtddmdnljfnimbaaGreatDoor.Pu
open Go.Proofs.YtddmdnljfnimbaaGreatDoor.Tx (blk_cell blk_set blk_far blk_new bel_new)

theorem two {w w1 : World} {o0 o1 : Obj} (b : Below ((w.alloc o0).alloc o1).heap.size ((w.alloc o0).alloc o1) w1) : w1.heap[w.heap.size]? = some o0 ∧ w1.heap[w.heap.size + 1]? = some o1 ∧ Below w.heap.size w w1 := by
  have e1 : (w.alloc o0).heap.size = w.heap.size + 1 := by simp
  have e2 : ((w.alloc o0).alloc o1).heap.size = w.heap.size + 1 + 1 := by simp
  have b1 : Below w.heap.size w ((w.alloc o0).alloc o1) := ((Below.refl _ _).alloc (Nat.le_refl _) _).alloc (by rw [e1]; omega) _
  rw [e2] at b
  refine ⟨?_, ?_, b1.trans (b.mono (by omega))⟩
  · rw [b.block _ (by omega), Below.heap_alloc _ _ _ (by omega)]; exact heap_alloc_new w _
  · rw [b.block _ (by omega), ← e1]; exact heap_alloc_new _ _
def b8 : ByteArray := ⟨#[46, 46, 46, 46, 46, 46, 46, 46]⟩
theorem msgB_mac (kd vw sq fr : Int) (dg bd : ByteArray) {mc mc' : ByteArray} (h : mc.size = mc'.size) : msgB kd vw sq fr dg bd mc = msgB kd vw sq fr dg bd mc' := by
  unfold msgB; rw [h]
/-- What SignMessage answers. -/
def sOK (id kd vw sq : Int) (dg bd : ByteArray) : Bool := msgB kd vw sq id dg bd b8
def sCode (id kd vw sq : Int) (dg bd : ByteArray) : Int := if inB id 0 6 then (if sOK id kd vw sq dg bd then 0 else 1) else 4
def sV (id kd vw sq : Int) (dg bd : ByteArray) : Value := if inB id 0 6 && sOK id kd vw sq dg bd then msgV kd vw sq id dg bd (mmk kd vw sq id.toNat dg bd) else msgV 0 0 0 0 ⟨#[]⟩ ⟨#[]⟩ ⟨#[]⟩
theorem s_cases (id kd vw sq : Int) (dg bd : ByteArray) : (inB id 0 6 = false ∧ sCode id kd vw sq dg bd = 4 ∧ sV id kd vw sq dg bd = msgV 0 0 0 0 ⟨#[]⟩ ⟨#[]⟩ ⟨#[]⟩) ∨ (inB id 0 6 = true ∧ msgB kd vw sq id dg bd b8 = false ∧ sCode id kd vw sq dg bd = 1 ∧ sV id kd vw sq dg bd = msgV 0 0 0 0 ⟨#[]⟩ ⟨#[]⟩ ⟨#[]⟩) ∨
    (∃ i : Nat, id = i ∧ i < 7 ∧ inB id 0 6 = true ∧ msgB kd vw sq i dg bd b8 = true ∧ sCode id kd vw sq dg bd = 0 ∧ sV id kd vw sq dg bd = msgV kd vw sq i dg bd (mmk kd vw sq i dg bd)) := by
  unfold sCode sV sOK
  cases h1 : inB id 0 6 with
  | false => exact .inl ⟨rfl, rfl, rfl⟩
  | true =>
    cases h2 : msgB kd vw sq id dg bd b8 with
    | false => exact .inr (.inl ⟨rfl, rfl, rfl, rfl⟩)
    | true =>
      unfold inB at h1
      simp only [decide_eq_true_eq] at h1
      obtain ⟨i, rfl⟩ := Int.eq_ofNat_of_zero_le h1.1
      exact .inr (.inr ⟨i, rfl, by omega, rfl, h2, rfl, rfl⟩)
theorem node_any (n : Int) (w : World) : Calls Tryz.prog 103 #[.int .i64 n] w fun e w' => e = .returned (.bool (inB n 0 6)) ∧ w = w' := (nodeOK_any n w).mono fun _ _ h => ⟨h.1, h.2.symm⟩
theorem in_any (x a b : Int) (w : World) : Calls Tryz.prog 39 #[.int .i64 x, .int .i64 a, .int .i64 b] w fun e w' => e = .returned (.bool (inB x a b)) ∧ w = w' := (Rq.l01In_any x a b w).mono fun _ _ h => ⟨h.1, h.2.symm⟩
theorem ret_mc {a b : Value} {c d : Int} (h : a = b ∧ c = d) : Ending.returned (.tuple #[a, .int .i64 c]) = .returned (.tuple #[b, .int .i64 d]) := by rw [h.1, h.2]
end Go.Proofs.YtddmdnljfnimbaaGreatDoor.Si
