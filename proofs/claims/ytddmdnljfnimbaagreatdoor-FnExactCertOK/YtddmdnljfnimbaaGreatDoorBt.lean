/- Batches' bytes: the program. -/
import Derived.Test.YtddmdnljfnimbaaGreatDoorBo3
import Derived.Test.YtddmdnljfnimbaaGreatDoorReqPut
namespace Go.Proofs.YtddmdnljfnimbaaGreatDoor.Bt
open Go.RowKit Go.Proofs.YtddmdnljfnimbaaGreatDoor.Sl Go.Proofs.YtddmdnljfnimbaaGreatDoor.By Go.Proofs.YtddmdnljfnimbaaGreatDoor.Rg Go.Proofs.YtddmdnljfnimbaaGreatDoor.Gr Go.Proofs.YtddmdnljfnimbaaGreatDoor.Rq Go.Proofs.YtddmdnljfnimbaaGreatDoor.Ap Go.Proofs.YtddmdnljfnimbaaGreatDoor.Pu Go.Proofs.YtddmdnljfnimbaaGreatDoor.Rp Go.Proofs.YtddmdnljfnimbaaGreatDoor.Bo

/-- A reading's bytes, some readings', a batch's. -/
def rdBs (x : Rd) : List Int := nums x.f 1 1 ++ (nums x.x 4 4 ++ bys x.m)
def rsBs (rs : List Rd) : List Int := rs.flatMap rdBs
def batBs (nl : Bool) (c st k l : Int) (n : ByteArray) (rs : List Rd) : List Int := if nl then [0] else nums ((rs.length : Int) + 1) 1 1 ++ rsBs rs ++ reqBs c st k l n
def batOut (nl : Bool) (c st k l : Int) (n : ByteArray) (rs : List Rd) : List Int := if bOK nl c st k l n rs then batBs nl c st k l n rs else []
def batCode (nl : Bool) (c st k l : Int) (n : ByteArray) (rs : List Rd) : Int := if bOK nl c st k l n rs then 0 else 1
theorem rs_step {rs : List Rd} {k : Nat} {x : Rd} (h : rs[k]? = some x) : rsBs (rs.take (k + 1)) = rsBs (rs.take k) ++ rdBs x := by
  unfold rsBs
  rw [List.take_add_one, h, List.flatMap_append]
  simp
theorem rsBs_len : ∀ (rs : List Rd), (∀ x ∈ rs, x.m.size = 8) → (rsBs rs).length = 13 * rs.length
  | [], _ => by simp [rsBs]
  | x :: xs, h => by
    have ih := rsBs_len xs fun y hy => h y (List.mem_cons_of_mem _ hy)
    unfold rsBs at ih ⊢
    rw [List.flatMap_cons, List.length_append, ih]
    unfold rdBs
    simp only [List.length_append, nums_length, bys_length, h x List.mem_cons_self, List.length_cons]
    omega
theorem rsBs_range (rs : List Rd) : ∀ z ∈ rsBs rs, 0 ≤ z ∧ z ≤ 255 := by
  intro z hz
  unfold rsBs at hz
  obtain ⟨x, _, hz⟩ := List.mem_flatMap.1 hz
  unfold rdBs at hz
  simp only [List.mem_append] at hz
  rcases hz with h | h | h
  · exact nums_range _ _ _ z h
  · exact nums_range _ _ _ z h
  · exact bys_range _ z h
theorem batBs_range (nl : Bool) (c st k l : Int) (n : ByteArray) (rs : List Rd) : ∀ z ∈ batBs nl c st k l n rs, 0 ≤ z ∧ z ≤ 255 := by
  intro z hz
  unfold batBs at hz
  cases nl with
  | true => simp at hz; omega
  | false =>
    simp only [Bool.false_eq_true, if_false, List.mem_append] at hz
    rcases hz with (h | h) | h
    · exact nums_range _ _ _ z h
    · exact rsBs_range _ z h
    · exact reqBs_range _ _ _ _ _ z h
theorem bOK_parts {c st k l : Int} {n : ByteArray} {rs : List Rd} (h : bOK false c st k l n rs = true) : n.size ≤ 12 ∧ rs.length ≤ 7 ∧ (∀ x ∈ rs, x.m.size = 8) ∧ reqB c st k l n = true ∧ rOK 0 rs = true := by
  have h' : (reqB c st k l n && rOK 0 rs) = true := h
  rw [Bool.and_eq_true] at h'
  exact ⟨req_small h'.1, rOK_seven h'.2, fun x hx => (rOK_small _ _ h'.2 x hx).1, h'.1, h'.2⟩
theorem box_kept {w w1 : World} {v v1 : Value} {cs : Array Value} {t : TypeId} (h : Kp (w.alloc (.cells cs t)) w1 v v1) (hn : some w.heap.size ≠ v.ownBlock) : w1.heap[w.heap.size]? = some (.cells cs t (0, 0)) :=
  (h.block _ (by simp) hn).trans (heap_alloc_new w _)
end Go.Proofs.YtddmdnljfnimbaaGreatDoor.Bt
