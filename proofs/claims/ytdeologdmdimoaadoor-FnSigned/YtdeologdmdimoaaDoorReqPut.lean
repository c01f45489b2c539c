/- Requests' bytes: both RequestBytes functions. -/
import Derived.Test.YtdeologdmdimoaaDoorPut
import Derived.Test.YtdeologdmdimoaaDoorReqLaw
import Derived.Deep.RegionLaw
import Derived.Deep.CutRange
import Derived.Deep.DeepCutAuto
import Derived.BigRegion
namespace Go.Proofs.YtdeologdmdimoaaDoor.Rp
open Go.RowKit Go.Proofs.YtdeologdmdimoaaDoor.Sl Go.Proofs.YtdeologdmdimoaaDoor.By Go.Proofs.YtdeologdmdimoaaDoor.Rq Go.Proofs.YtdeologdmdimoaaDoor.Ap Go.Proofs.YtdeologdmdimoaaDoor.Pu

/-- A request's bytes. -/
def reqBs (c st k l : Int) (n : ByteArray) : List Int := nums c 1 1 ++ (nums st 2 2 ++ (nums k 1 1 ++ (nums l 2 2 ++ (nums (n.size : Int) 1 1 ++ bys n))))
theorem reqBs_length (c st k l : Int) (n : ByteArray) : (reqBs c st k l n).length = 7 + n.size := by unfold reqBs; simp only [List.length_append, nums_length, bys_length]; omega
theorem reqBs_range (c st k l : Int) (n : ByteArray) : ∀ z ∈ reqBs c st k l n, 0 ≤ z ∧ z ≤ 255 := by
  intro z hz
  unfold reqBs at hz
  simp only [List.mem_append] at hz
  rcases hz with h | h | h | h | h | h
  all_goals first | exact nums_range _ _ _ z h | exact bys_range _ z h

theorem kept_cell {w w1 : World} {v v1 : Value} (h : Kp w w1 v v1) {b : Nat} (hb : b < w.heap.size) (hn : some b ≠ v.ownBlock) (i : Nat) : w1.cell? ⟨b, i, none⟩ = w.cell? ⟨b, i, none⟩ := World.cell?_of_block (h.block b hb hn)
theorem req_kept {w w1 : World} {v v1 : Value} {c st k l : Int} {n : ByteArray} {t : TypeId} (h : Kp (w.alloc (.cells #[.int .i64 c, .int .i64 st, .int .i64 k, .int .i64 l, .string n] t)) w1 v v1) (hn : some w.heap.size ≠ v.ownBlock) :
    w1.cell? ⟨w.heap.size, 0, none⟩ = some (.int .i64 c) ∧ w1.cell? ⟨w.heap.size, 1, none⟩ = some (.int .i64 st) ∧ w1.cell? ⟨w.heap.size, 2, none⟩ = some (.int .i64 k) ∧ w1.cell? ⟨w.heap.size, 3, none⟩ = some (.int .i64 l) ∧ w1.cell? ⟨w.heap.size, 4, none⟩ = some (.string n) := by
  have hs : w.heap.size < (w.alloc (.cells #[.int .i64 c, .int .i64 st, .int .i64 k, .int .i64 l, .string n] t)).heap.size := by simp
  have h' := fun i => (kept_cell h hs hn i).trans (World.cell?_alloc_at _ _ _ _ rfl)
  exact ⟨h' 0, h' 1, h' 2, h' 3, h' 4⟩
theorem own_away {e : TypeId} {w : World} {B : Nat} {v : Value} {zs : List Int} (h : OwnB e w B v zs) : some w.heap.size ≠ v.ownBlock := by
  intro hn
  unfold OwnB at h
  have := (h.lt _ hn.symm).2
  omega

theorem ret_tup {v : Value} {a b : Int} (h : a = b) : Ending.returned (.tuple #[v, .int .i64 a]) = .returned (.tuple #[v, .int .i64 b]) := by rw [h]
/-- What RequestBytes answers: the bytes, or none. -/
def reqOut (c st k l : Int) (n : ByteArray) : List Int := if reqB c st k l n then reqBs c st k l n else []
def reqCode (c st k l : Int) (n : ByteArray) : Int := if reqB c st k l n then 0 else 1
theorem req_small {c st k l : Int} {n : ByteArray} (h : reqB c st k l n = true) : n.size ≤ 12 := by
  unfold reqB opB at h
  simp at h
  exact h.2.2.2.1

set_option maxRecDepth 100000 in
set_option maxHeartbeats 1600000 in
theorem l02Request_any (c st k l : Int) (n : ByteArray) (w : World) (hl2 : n.size ≤ 1000) :
    Calls Tryd.prog 63 #[reqV c st k l n] w fun e w' => ∃ v, e = .returned v ∧ OwnB 5 w' (w.heap.size + 1) v (reqBs c st k l n) ∧ Below (w.heap.size + 1) (w.alloc (.cells #[.int .i64 c, .int .i64 st, .int .i64 k, .int .i64 l, .string n] 71)) w' := by
  obtain ⟨i0, hi, hz0, hz1, hz2⟩ := info_parts Sl.info5
  go_enter Tryd.func63, Tryd.ntmps63
  unfold reqV
  have hs0 : Hid (w.heap.size + 1 = (w.alloc (.cells #[.int .i64 c, .int .i64 st, .int .i64 k, .int .i64 l, .string n] 71)).heap.size) := (size_new _ _).symm
  have HN : Hid (∀ x : Int, [IntKind.u8.wrap x] = nums x 1 1) := fun x => by simp [nums, nb, IntKind.wrap_u8]
  go_upto_region 1 with fail
  go_cut [3] (fun s3 wx => OwnB 5 wx (w.heap.size + 1) s3 (nums c 1 1 ++ nums st 2 2) ∧ Below (w.heap.size + 1) (w.alloc (.cells #[.int .i64 c, .int .i64 st, .int .i64 k, .int .i64 l, .string n] 71)) wx)
  case first =>
    go_region_law (first
      | (go_simp; go_at_call 56; refine (l02Number_any st 2 _ (by decide)).mono ?_; rintro e w1 ⟨v1, rfl, o1, b1⟩; (first | (with_reducible (have hA := ordA hs0.out b1); obtain ⟨f7, g1, B1⟩ := hA) | (with_reducible (have hA := ordB hs0.out b1); obtain ⟨g1, B1⟩ := hA; obtain ⟨q0, q1, q2, q3, q4⟩ := req_box g1)); have r1 := own_rowB o1 (nums_range _ _ _); clear o1 b1; try go_simp)
      | (refine step_row (by rfl) _ _ 22 (by rfl) Tryd.underlying22 hi hz0 hz1 hz2 (w.heap.size + 1) _ _ _ _ _ (by rfl) (by rfl) f7 B1 r1 (by simp [nums_length]) ?_; intro v2 w2 o2 k2; have g2 := g1.trans (k2.below f7 B1))
      | (refine step_row (by rfl) _ _ 22 (by rfl) Tryd.underlying22 hi hz0 hz1 hz2 (w.heap.size + 1) _ _ _ _ _ (by rfl) (by rfl) (own_one _ w1 _ _ B1) (Nat.le_trans B1 (by simp)) (rowB_alloc r1 _) (by simp [nums_length]) ?_; intro v2 w2 o2 k2; have g2 := (g1.alloc B1 _).trans (k2.below (own_one _ w1 _ _ B1) (Nat.le_trans B1 (by simp)))))
    all_goals
      rw [HN.out] at o2
      go_wp2_with fail
      go_meet
      exact ⟨o2, g2⟩
  case rest =>
  obtain ⟨o1, g1⟩ := hcut
  have B1 : w.heap.size + 1 ≤ wc.heap.size := Nat.le_trans (Nat.le_of_eq hs0.out) g1.size
  obtain ⟨q0, q1, q2, q3, q4⟩ := req_box g1
  have hl1 : (nums c 1 1 ++ nums st 2 2).length = 3 := by simp only [List.length_append, nums_length]
  obtain ⟨zs, HZ⟩ : ∃ zs, Hid (nums c 1 1 ++ nums st 2 2 = zs) := ⟨_, rfl⟩
  rw [HZ.out] at o1 hl1
  have HL1 : Hid (zs.length = 3) := hl1
  clear hl1 q0 q1
  go_upto_region 2 with fail
  go_cut [3] (fun s3 wx => OwnB 5 wx (w.heap.size + 1) s3 (zs ++ nums k 1 1 ++ nums l 2 2) ∧ Below (w.heap.size + 1) (w.alloc (.cells #[.int .i64 c, .int .i64 st, .int .i64 k, .int .i64 l, .string n] 71)) wx)
  case first =>
    have HW : Hid (∀ g, u3.ownBlock = some g → g < wc.heap.size) := own_lt o1
    have q3a : ∀ o, (wc.alloc o).cell? ⟨w.heap.size, 3, none⟩ = some (.int .i64 l) := fun o => (req_box (g1.alloc B1 o)).2.2.2.1
    go_region_law (first
      | (go_simp; go_at_call 56; refine (l02Number_any l 2 _ (by decide)).mono ?_; rintro e w3 ⟨v3, rfl, o3, b3⟩; (first | (with_reducible (have hA := ordC o2 g2 B2 b3); obtain ⟨f17, g3, B3⟩ := hA; have r20 := own_rowB o3 (nums_range _ _ _)) | (with_reducible (have hA := ordA2 o1 g1 B1 b3); obtain ⟨f16, f12, g3, B3⟩ := hA; have r16 := own_rowB f16 (one_range (wrap_range _)); have o20 := own_le o3 (by simp : wc.heap.size ≤ _)) | (with_reducible (have hA := ordB2 o1 g1 B1 b3); obtain ⟨f12, g3, B3⟩ := hA; have o20 : OwnB 5 w3 wc.heap.size v3 _ := o3)); obtain ⟨y0, y1, y2, y3, y4⟩ := req_box g3; clear o3 b3; try go_simp)
      | (refine step_row (by rfl) _ _ 22 (by rfl) Tryd.underlying22 hi hz0 hz1 hz2 (w.heap.size + 1) _ _ _ _ _ (by rfl) (by rfl) f17 B3 r20 (by simp only [List.length_append, nums_length, HL1.out, List.length_cons, List.length_nil]; decide) ?_; intro v5 w5 o5 k5; have g5 := g3.trans (k5.below f17 B3))
      | (refine step_row (by rfl) _ _ 22 (by rfl) Tryd.underlying22 hi hz0 hz1 hz2 (w.heap.size + 1) _ _ _ _ _ (by rfl) (by rfl) o2 B2 r20 (by simp only [List.length_append, nums_length, HL1.out, List.length_cons, List.length_nil]; decide) ?_; intro v5 w5 o5 k5; have g5 := g2.trans (k5.below o2 B2))
      | (refine step_row (by rfl) _ _ 22 (by rfl) Tryd.underlying22 hi hz0 hz1 hz2 (w.heap.size + 1) _ _ _ _ _ (by rfl) (by rfl) f12 B3 r16 (by simp only [List.length_append, nums_length, HL1.out, List.length_cons, List.length_nil]; decide) ?_; intro v2 w2 o2 k2; have g2 := g3.trans (k2.below f12 B3); have B2 : w.heap.size + 1 ≤ w2.heap.size := Nat.le_trans B3 k2.size; have r20 := own_rowB (own_kp o20 k2 HW.out) (nums_range _ _ _); obtain ⟨x0, x1, x2, x3, x4⟩ := req_box g2)
      | (refine step_row (by rfl) _ _ 22 (by rfl) Tryd.underlying22 hi hz0 hz1 hz2 (w.heap.size + 1) _ _ _ _ _ (by rfl) (by rfl) (own_alloc f12 _) (Nat.le_trans B3 (by simp)) (own_rowB (own_one _ w3 w3.heap.size _ (Nat.le_refl _)) (one_range (wrap_range _))) (by simp only [List.length_append, nums_length, HL1.out, List.length_cons, List.length_nil]; decide) ?_; intro v2 w2 o2 k2; have g2 := (g3.alloc B3 _).trans (k2.below (own_alloc f12 _) (Nat.le_trans B3 (by simp))); have B2 : w.heap.size + 1 ≤ w2.heap.size := Nat.le_trans B3 (Nat.le_trans (by simp) k2.size); have r20 := own_rowB (own_kp (own_alloc o20 _) k2 HW.out) (nums_range _ _ _); obtain ⟨x0, x1, x2, x3, x4⟩ := req_box g2)
      | (refine step_row (by rfl) _ _ 22 (by rfl) Tryd.underlying22 hi hz0 hz1 hz2 (w.heap.size + 1) _ _ _ _ _ (by rfl) (by rfl) (own_drew (own_alloc o1 _)) (Nat.le_trans B1 (by simp)) (rowB_drew (own_rowB (own_one _ wc wc.heap.size _ (Nat.le_refl _)) (one_range (wrap_range _)))) (by simp only [HL1.out, List.length_cons, List.length_nil]; decide) ?_; intro v2 w2 o2 k2; have g2 := (g1.alloc B1 _).drew.trans (k2.below (own_drew (own_alloc o1 _)) (Nat.le_trans B1 (by simp))); have B2 : w.heap.size + 1 ≤ w2.heap.size := Nat.le_trans B1 (Nat.le_trans (by simp) k2.size); obtain ⟨x0, x1, x2, x3, x4⟩ := req_box g2))
    all_goals
      rw [HN.out] at o5
      go_wp2_with fail
      go_meet
      exact ⟨o5, g5⟩
  case rest =>
  clear q2 q3 q4 o1 g1 B1
  obtain ⟨o1, g1⟩ := hcut
  have B1 : w.heap.size + 1 ≤ wc.heap.size := Nat.le_trans (Nat.le_of_eq hs0.out) g1.size
  obtain ⟨q0, q1, q2, q3, q4⟩ := req_box g1
  have q4a : ∀ o, (wc.alloc o).cell? ⟨w.heap.size, 4, none⟩ = some (.string n) := fun o => (req_box (g1.alloc B1 o)).2.2.2.2
  have HE : Hid (zs ++ nums k 1 1 ++ nums l 2 2 ++ nums (n.size : Int) 1 1 ++ bys n = reqBs c st k l n) := by show _ = _; rw [← HZ.out]; unfold reqBs; simp [List.append_assoc]
  have hl1 : (zs ++ nums k 1 1 ++ nums l 2 2).length = 6 := by simp only [List.length_append, nums_length, HL1.out]
  generalize zs ++ nums k 1 1 ++ nums l 2 2 = ys at o1 hl1 HE
  have HL2 : Hid (ys.length = 6) := hl1
  clear hl1 q0 q1 q2 q3
  go_upto_region 3 with fail
  go_region_law (first
    | (refine step_row (by rfl) _ _ 22 (by rfl) Tryd.underlying22 hi hz0 hz1 hz2 (w.heap.size + 1) _ _ _ _ _ (by rfl) (by rfl) (own_drew (own_alloc o1 _)) (Nat.le_trans B1 (by simp)) (rowB_drew (own_rowB (own_one _ wc wc.heap.size _ (Nat.le_refl _)) (one_range (wrap_range _)))) (by simp only [HL2.out, List.length_cons, List.length_nil]; decide) ?_; intro v2 w2 o2 k2; have g2 := (g1.alloc B1 _).drew.trans (k2.below (own_drew (own_alloc o1 _)) (Nat.le_trans B1 (by simp))); have B2 : w.heap.size + 1 ≤ w2.heap.size := Nat.le_trans B1 (Nat.le_trans (by simp) k2.size); obtain ⟨x0, x1, x2, x3, x4⟩ := req_box g2)
    | (refine step_str (by rfl) _ _ 22 9 (by rfl) Tryd.underlying22 Tryd.underlying9 hi hz0 hz1 hz2 (w.heap.size + 1) _ _ n _ (by rfl) (by rfl) o2 B2 (by simp only [List.length_append, HL2.out, List.length_cons, List.length_nil]; omega) ?_; intro v5 w5 o5 k5; have g5 := g2.trans (k5.below o2 B2)))
  all_goals
    rw [HN.out, HE.out] at o5
    go_wp2_with fail
    go_ret
    exact ⟨_, rfl, o5, g5⟩

end Go.Proofs.YtdeologdmdimoaaDoor.Rp
