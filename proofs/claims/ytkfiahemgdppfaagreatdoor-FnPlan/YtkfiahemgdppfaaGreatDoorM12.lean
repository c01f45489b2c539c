/- Texts put together: Mark, Mkt, Rl2, ReqPut, Lb. -/
import Derived.Test.YtkfiahemgdppfaaGreatDoorM0
import Derived.Test.YtkfiahemgdppfaaGreatDoorM1
import Derived.Test.YtkfiahemgdppfaaGreatDoorM11
import Derived.Deep.RegionWith
import Derived.Test.YtkfiahemgdppfaaGreatDoorM6
import Derived.Deep.RegionLaw
import Derived.Deep.CutRange
import Derived.Deep.DeepCutAuto
import Derived.BigRegion
/- The laws' marks on bytes: written, and held. -/
namespace Go.Proofs.YtkfiahemgdppfaaGreatDoor.Mk
open Go.RowKit Go.Proofs.YtkfiahemgdppfaaGreatDoor.Sl Go.Proofs.YtkfiahemgdppfaaGreatDoor.By Go.Proofs.YtkfiahemgdppfaaGreatDoor.Ap Go.Proofs.YtkfiahemgdppfaaGreatDoor.Rq

/-- Bytes whose first i are marked, from a on. -/
def marksTo (zs : List Int) (a : Int) (i : Nat) : List Int := (List.range zs.length).map fun j => if j < i then (a + j) % 256 else nth zs j
def marks (a : Int) (n : Nat) : List Int := (List.range n).map fun j : Nat => (a + j) % 256
theorem marksTo_length (zs : List Int) (a : Int) (i : Nat) : (marksTo zs a i).length = zs.length := by simp [marksTo]
theorem marks_length (a : Int) (n : Nat) : (marks a n).length = n := by simp [marks]
theorem marksTo_zero (zs : List Int) (a : Int) : marksTo zs a 0 = zs := by
  apply List.ext_getElem?
  intro j
  unfold marksTo
  by_cases h : j < zs.length
  · rw [List.getElem?_map, List.getElem?_range h, List.getElem?_eq_getElem h]
    simp [nth, List.getElem?_eq_getElem h]
  · rw [List.getElem?_eq_none (by simp; omega), List.getElem?_eq_none (by omega)]
theorem marksTo_all (zs : List Int) (a : Int) : marksTo zs a zs.length = marks a zs.length := by
  unfold marksTo marks
  apply List.map_congr_left
  intro j hj
  rw [if_pos (by simpa using hj)]
theorem marksTo_succ (zs : List Int) (a : Int) (i : Nat) (h : i < zs.length) : (marksTo zs a i).set i ((a + i) % 256) = marksTo zs a (i + 1) := by
  apply List.ext_getElem?
  intro j
  rw [List.getElem?_set]
  unfold marksTo
  by_cases hj : j < zs.length
  · by_cases e : i = j
    · subst e
      rw [if_pos rfl, if_pos (by simpa using h), List.getElem?_map, List.getElem?_range h]
      simp
    · rw [if_neg e, List.getElem?_map, List.getElem?_map, List.getElem?_range hj]
      by_cases e2 : j < i
      · simp [e2, show j < i + 1 by omega]
      · simp [e2, show ¬ j < i + 1 by omega]
  · rw [if_neg (by omega), List.getElem?_eq_none (by simp; omega), List.getElem?_eq_none (by simp; omega)]
theorem marks_range (a : Int) (n : Nat) : ∀ z ∈ marks a n, 0 ≤ z ∧ z ≤ 255 := by
  intro z hz
  unfold marks at hz
  obtain ⟨j, _, rfl⟩ := List.mem_map.1 hz
  omega
theorem marks_at (a : Int) (n i : Nat) (h : i < n) : nth (marks a n) i = (a + i) % 256 := by
  unfold nth marks
  rw [List.getD_eq_getElem?_getD, List.getElem?_map, List.getElem?_range h]
  rfl

/-- A slice of the call's own: what a store into it wants, and leaves. -/
theorem own_store {e : TypeId} {w : World} {B n : Nat} {v : Value} {zs : List Int} (h : OwnB e w B v zs) (hn : zs.length = n) (hp : 0 < n) :
    ∃ g cap, v = .slice (some ⟨g, 0, none⟩) n cap ∧ n ≤ cap ∧ g < w.heap.size ∧ ∀ w', OwnB e w' B v zs → ∀ j, j < n → w'.cell? ⟨g, j, none⟩ = some (.int .u8 (nth zs j)) ∧ w'.frozen? ⟨g, j, none⟩ = false ∧ ∀ z, OwnB e (w'.setCell ⟨g, j, none⟩ (.int .u8 z)) B v (zs.set j z) ∧ Kp w' (w'.setCell ⟨g, j, none⟩ (.int .u8 z)) v v := by
  obtain ⟨g, cap, hv, hb, hg⟩ : ∃ g cap, v = .slice (some ⟨g, 0, none⟩) n cap ∧ n ≤ cap ∧ g < w.heap.size := by
    obtain ⟨_, h⟩ := h
    rcases h with ⟨_, h0⟩ | ⟨g, cap, cur, hv, _, hg, hnc, _⟩
    · omega
    · exact ⟨g, cap, by rw [hv, hn], by omega, (Array.getElem?_eq_some_iff.1 hg).1⟩
  refine ⟨g, cap, hv, hb, hg, fun w' h' j hj => ?_⟩
  unfold OwnB at h'
  subst hv
  rw [hn] at h'
  refine ⟨?_, h'.frozenAt j, fun z => ?_⟩
  · rw [h'.cellAt j (by omega), List.getElem?_map, List.getElem?_eq_getElem (by omega)]
    unfold nth
    rw [List.getD_eq_getElem?_getD, List.getElem?_eq_getElem (by omega)]
    rfl
  · obtain ⟨h1, h2⟩ := h'.stored j (.int .u8 z)
    refine ⟨?_, Kp.of_grown (by simpa [Value.ownBlock] using h2) (.inl rfl)⟩
    unfold OwnB
    rw [List.length_set, List.map_set, hn]
    exact h1

end Go.Proofs.YtkfiahemgdppfaaGreatDoor.Mk

/- The laws' marks on texts. -/
namespace Go.Proofs.YtkfiahemgdppfaaGreatDoor.Mk
open Go.RowKit Go.Proofs.YtkfiahemgdppfaaGreatDoor.Sl Go.Proofs.YtkfiahemgdppfaaGreatDoor.By Go.Proofs.YtkfiahemgdppfaaGreatDoor.Ap Go.Proofs.YtkfiahemgdppfaaGreatDoor.Rq Go.Proofs.YtkfiahemgdppfaaGreatDoor.Ty Go.Proofs.YtkfiahemgdppfaaGreatDoor.Rr

/-- The digits of a number, ahead of a text. -/
def mtGo : Nat → Nat → ByteArray → ByteArray
  | 0, _, s => s
  | f + 1, k, s => if k = 0 then s else mtGo f (k / 10) (strOfNums [48 + ((k % 10 : Nat) : Int)] ++ s)
def mtext (k : Nat) : ByteArray := (⟨#[109]⟩ : ByteArray) ++ mtGo (k + 1) k ⟨#[]⟩
theorem ret_str {a b : ByteArray} (h : a = b) : Ending.returned (.string a) = .returned (.string b) := by rw [h]

/-- Marked texts, from a on. -/
def tmarks (a n : Nat) : List ByteArray := (List.range n).map fun j => mtext (a + j)
theorem tmarks_length (a n : Nat) : (tmarks a n).length = n := by simp [tmarks]
theorem tmarks_at (a n j : Nat) (h : j < n) : tnth (tmarks a n) j = mtext (a + j) := by
  unfold tnth tmarks
  rw [List.getD_eq_getElem?_getD, List.getElem?_map, List.getElem?_range h]
  rfl
theorem kp_set {w : World} {g n : Nat} (j : Nat) (x : Value) : Kp w (w.setCell ⟨g, j, none⟩ x) (.slice (some ⟨g, 0, none⟩) n n) (.slice (some ⟨g, 0, none⟩) n n) :=
  Kp.of_grown (grown_set j x) (.inl rfl)

end Go.Proofs.YtkfiahemgdppfaaGreatDoor.Mk

/- Both ReadList functions; the laws' marks on a list that was handed out. -/
namespace Go.Proofs.YtkfiahemgdppfaaGreatDoor.Rl
open Go.RowKit Go.Proofs.YtkfiahemgdppfaaGreatDoor.Sl Go.Proofs.YtkfiahemgdppfaaGreatDoor.By Go.Proofs.YtkfiahemgdppfaaGreatDoor.Ap Go.Proofs.YtkfiahemgdppfaaGreatDoor.Rq Go.Proofs.YtkfiahemgdppfaaGreatDoor.Rr Go.Proofs.YtkfiahemgdppfaaGreatDoor.Ty Go.Proofs.YtkfiahemgdppfaaGreatDoor.Tl Go.Proofs.YtkfiahemgdppfaaGreatDoor.Of Go.Proofs.YtkfiahemgdppfaaGreatDoor.Mk

def rdC (xs : List Int) : Int := rlC (decide (65536 < xs.length)) (rdOk xs)
def rdL (xs : List Int) : List ByteArray := rlO (decide (65536 < xs.length)) (rdOk xs) (lT (tkR 1 xs) (tlN xs))
theorem txt_small (xs : List Int) (hr : ∀ x ∈ xs, 0 ≤ x ∧ x ≤ 255) : (txtB 2 xs).size ≤ 65535 := by
  unfold txtB
  rw [strOfNums_size]
  exact Nat.le_trans (tkB_len _ _) (txtN_le 2 xs (by decide) hr).1
theorem rdL_small (xs : List Int) (hr : ∀ x ∈ xs, 0 ≤ x ∧ x ≤ 255) : (rdL xs).length ≤ 65535 := by
  unfold rdL rlO
  split
  · rw [lT_length]; exact (tlN_le xs hr).1
  · simp

set_option maxHeartbeats 400000 in
theorem implReadList_any (v : Value) (xs : List Int) (w : World) (h : RowB w v xs) (hl : xs.length ≤ 1048576) :
    Calls Tryz.prog 58 #[v] w fun e w' => ∃ v', e = .returned (.tuple #[v', .int .i64 (rdC xs)]) ∧ OwnS w' w.heap.size v' (rdL xs) ∧ Below w.heap.size w w' := by
  have hr : ∀ x ∈ xs, 0 ≤ x ∧ x ≤ 255 := by obtain ⟨_, _, _, _, h⟩ := h; exact h
  have HR : Hid (RowB w v xs) := h
  have H1 : Hid ((lT (tkR 1 xs) (tlN xs)).length ≤ 1048576) := by show _ ≤ _; rw [lT_length]; have := (tlN_le xs hr).1; omega
  have H2 : Hid (∀ i, i < (lT (tkR 1 xs) (tlN xs)).length → (tnth (lT (tkR 1 xs) (tlN xs)) i).size ≤ 1048576) := fun i hi => by
    rw [lT_length] at hi
    rw [lT_at _ _ _ hi]
    have := txt_small _ (lR_range (tkR_range (n := 1) hr) i)
    omega
  clear h hr
  go_enter Tryz.func58, Tryz.ntmps58
  go_wp2_with fail
  refine (readJustList_gen _ xs _ HR.out hl (lT (tkR 1 xs) (tlN xs)) (lR (tkR 1 xs) (tlN xs)) (lS (tkR 1 xs) (tkS 1 xs false) (tlN xs)) H1.out H2.out (fun W p B h1 h2 h3 h4 => takeList_any p B xs false W h1 h2 h3 h4)).mono ?_
  rintro e w1 ⟨v1, rfl, o1, b1⟩
  have O1 : Hid (OwnS w1 w.heap.size v1 (rdL xs)) := o1
  have EC : Hid (rlC (decide (65536 < xs.length)) (!lS (tkR 1 xs) (tkS 1 xs false) (tlN xs) && ((lR (tkR 1 xs) (tlN xs)).isEmpty && okT (lT (tkR 1 xs) (tlN xs)))) = rdC xs) := rfl
  rw [EC.out]
  clear o1 EC
  go_wp2_with fail
  go_ret2
  exact ⟨_, rfl, O1.out, b1⟩

end Go.Proofs.YtkfiahemgdppfaaGreatDoor.Rl

/- Requests' bytes: both RequestBytes functions. -/
namespace Go.Proofs.YtkfiahemgdppfaaGreatDoor.Rp
open Go.RowKit Go.Proofs.YtkfiahemgdppfaaGreatDoor.Sl Go.Proofs.YtkfiahemgdppfaaGreatDoor.By Go.Proofs.YtkfiahemgdppfaaGreatDoor.Rq Go.Proofs.YtkfiahemgdppfaaGreatDoor.Ap Go.Proofs.YtkfiahemgdppfaaGreatDoor.Pu

/-- A request's bytes. -/
def reqBs (c st k l : Int) (n : ByteArray) : List Int := nums c 1 1 ++ (nums st 2 2 ++ (nums k 1 1 ++ (nums l 2 2 ++ (nums (n.size : Int) 1 1 ++ bys n))))
theorem reqBs_length (c st k l : Int) (n : ByteArray) : (reqBs c st k l n).length = 7 + n.size := by unfold reqBs; simp only [List.length_append, nums_length, bys_length]; omega
theorem reqBs_range (c st k l : Int) (n : ByteArray) : ∀ z ∈ reqBs c st k l n, 0 ≤ z ∧ z ≤ 255 := by
  intro z hz
  unfold reqBs at hz
  simp only [List.mem_append] at hz
  rcases hz with h | h | h | h | h | h
  all_goals first | exact nums_range _ _ _ z h | exact bys_range _ z h

theorem kept_cell {w w1 : World} {v v1 : Value} (h : Kp w w1 v v1) {b : Nat} (hb : b < w.heap.size) (hn : some b ≠ v.ownBlock) (i : Nat) : w1.cell? ⟨b, i, none⟩ = w.cell? ⟨b, i, none⟩ := World.cell?_of_block (h.block b hb hn)
theorem req_kept {w w1 : World} {v v1 : Value} {c st k l : Int} {n : ByteArray} {t : TypeId} (h : Kp (w.alloc (.cells #[.int .i64 c, .int .i64 st, .int .i64 k, .int .i64 l, .string n] t)) w1 v v1) (hn : some w.heap.size ≠ v.ownBlock) :
    w1.cell? ⟨w.heap.size, 0, none⟩ = some (.int .i64 c) ∧ w1.cell? ⟨w.heap.size, 1, none⟩ = some (.int .i64 st) ∧ w1.cell? ⟨w.heap.size, 2, none⟩ = some (.int .i64 k) ∧ w1.cell? ⟨w.heap.size, 3, none⟩ = some (.int .i64 l) ∧ w1.cell? ⟨w.heap.size, 4, none⟩ = some (.string n) := by
  have hs : w.heap.size < (w.alloc (.cells #[.int .i64 c, .int .i64 st, .int .i64 k, .int .i64 l, .string n] t)).heap.size := by simp
  have h' := fun i => (kept_cell h hs hn i).trans (World.cell?_alloc_at _ _ _ _ rfl)
  exact ⟨h' 0, h' 1, h' 2, h' 3, h' 4⟩
theorem own_away {e : TypeId} {w : World} {B : Nat} {v : Value} {zs : List Int} (h : OwnB e w B v zs) : some w.heap.size ≠ v.ownBlock := by
  intro hn
  unfold OwnB at h
  have := (h.lt _ hn.symm).2
  omega

theorem ret_tup {v : Value} {a b : Int} (h : a = b) : Ending.returned (.tuple #[v, .int .i64 a]) = .returned (.tuple #[v, .int .i64 b]) := by rw [h]
/-- What RequestBytes answers: the bytes, or none. -/
def reqOut (c st k l : Int) (n : ByteArray) : List Int := if reqB c st k l n then reqBs c st k l n else []
def reqCode (c st k l : Int) (n : ByteArray) : Int := if reqB c st k l n then 0 else 1
theorem req_small {c st k l : Int} {n : ByteArray} (h : reqB c st k l n = true) : n.size ≤ 12 := by
  unfold reqB opB at h
  simp at h
  exact h.2.2.2.1

set_option maxRecDepth 100000 in
set_option maxHeartbeats 1600000 in
theorem l02Request_any (c st k l : Int) (n : ByteArray) (w : World) (hl2 : n.size ≤ 1000) :
    Calls Tryz.prog 132 #[reqV c st k l n] w fun e w' => ∃ v, e = .returned v ∧ OwnB 5 w' (w.heap.size + 1) v (reqBs c st k l n) ∧ Below (w.heap.size + 1) (w.alloc (.cells #[.int .i64 c, .int .i64 st, .int .i64 k, .int .i64 l, .string n] 118)) w' := by
  obtain ⟨i0, hi, hz0, hz1, hz2⟩ := info_parts Sl.info5
  go_enter Tryz.func132, Tryz.ntmps132
  unfold reqV
  have hs0 : Hid (w.heap.size + 1 = (w.alloc (.cells #[.int .i64 c, .int .i64 st, .int .i64 k, .int .i64 l, .string n] 118)).heap.size) := (size_new _ _).symm
  have HN : Hid (∀ x : Int, [IntKind.u8.wrap x] = nums x 1 1) := fun x => by simp [nums, nb, IntKind.wrap_u8]
  go_upto_region 1 with fail
  go_cut [3] (fun s3 wx => OwnB 5 wx (w.heap.size + 1) s3 (nums c 1 1 ++ nums st 2 2) ∧ Below (w.heap.size + 1) (w.alloc (.cells #[.int .i64 c, .int .i64 st, .int .i64 k, .int .i64 l, .string n] 118)) wx)
  case first =>
    go_region_law (first
      | (go_simp; go_at_call 86; refine (l02Number_any st 2 _ (by decide)).mono ?_; rintro e w1 ⟨v1, rfl, o1, b1⟩; (first | (with_reducible (have hA := ordA hs0.out b1); obtain ⟨f7, g1, B1⟩ := hA) | (with_reducible (have hA := ordB hs0.out b1); obtain ⟨g1, B1⟩ := hA; obtain ⟨q0, q1, q2, q3, q4⟩ := req_box g1)); have r1 := own_rowB o1 (nums_range _ _ _); clear o1 b1; try go_simp)
      | (refine step_row (by rfl) _ _ 22 (by rfl) Tryz.underlying22 hi hz0 hz1 hz2 (w.heap.size + 1) _ _ _ _ _ (by rfl) (by rfl) f7 B1 r1 (by simp [nums_length]) ?_; intro v2 w2 o2 k2; have g2 := g1.trans (k2.below f7 B1))
      | (refine step_row (by rfl) _ _ 22 (by rfl) Tryz.underlying22 hi hz0 hz1 hz2 (w.heap.size + 1) _ _ _ _ _ (by rfl) (by rfl) (own_one _ w1 _ _ B1) (Nat.le_trans B1 (by simp)) (rowB_alloc r1 _) (by simp [nums_length]) ?_; intro v2 w2 o2 k2; have g2 := (g1.alloc B1 _).trans (k2.below (own_one _ w1 _ _ B1) (Nat.le_trans B1 (by simp)))))
    all_goals
      rw [HN.out] at o2
      go_wp2_with fail
      go_meet
      exact ⟨o2, g2⟩
  case rest =>
  obtain ⟨o1, g1⟩ := hcut
  have B1 : w.heap.size + 1 ≤ wc.heap.size := Nat.le_trans (Nat.le_of_eq hs0.out) g1.size
  obtain ⟨q0, q1, q2, q3, q4⟩ := req_box g1
  have hl1 : (nums c 1 1 ++ nums st 2 2).length = 3 := by simp only [List.length_append, nums_length]
  obtain ⟨zs, HZ⟩ : ∃ zs, Hid (nums c 1 1 ++ nums st 2 2 = zs) := ⟨_, rfl⟩
  rw [HZ.out] at o1 hl1
  have HL1 : Hid (zs.length = 3) := hl1
  clear hl1 q0 q1
  go_upto_region 2 with fail
  go_cut [3] (fun s3 wx => OwnB 5 wx (w.heap.size + 1) s3 (zs ++ nums k 1 1 ++ nums l 2 2) ∧ Below (w.heap.size + 1) (w.alloc (.cells #[.int .i64 c, .int .i64 st, .int .i64 k, .int .i64 l, .string n] 118)) wx)
  case first =>
    have HW : Hid (∀ g, u3.ownBlock = some g → g < wc.heap.size) := own_lt o1
    have q3a : ∀ o, (wc.alloc o).cell? ⟨w.heap.size, 3, none⟩ = some (.int .i64 l) := fun o => (req_box (g1.alloc B1 o)).2.2.2.1
    go_region_law (first
      | (go_simp; go_at_call 86; refine (l02Number_any l 2 _ (by decide)).mono ?_; rintro e w3 ⟨v3, rfl, o3, b3⟩; (first | (with_reducible (have hA := ordC o2 g2 B2 b3); obtain ⟨f17, g3, B3⟩ := hA; have r20 := own_rowB o3 (nums_range _ _ _)) | (with_reducible (have hA := ordA2 o1 g1 B1 b3); obtain ⟨f16, f12, g3, B3⟩ := hA; have r16 := own_rowB f16 (one_range (wrap_range _)); have o20 := own_le o3 (by simp : wc.heap.size ≤ _)) | (with_reducible (have hA := ordB2 o1 g1 B1 b3); obtain ⟨f12, g3, B3⟩ := hA; have o20 : OwnB 5 w3 wc.heap.size v3 _ := o3)); obtain ⟨y0, y1, y2, y3, y4⟩ := req_box g3; clear o3 b3; try go_simp)
      | (refine step_row (by rfl) _ _ 22 (by rfl) Tryz.underlying22 hi hz0 hz1 hz2 (w.heap.size + 1) _ _ _ _ _ (by rfl) (by rfl) f17 B3 r20 (by simp only [List.length_append, nums_length, HL1.out, List.length_cons, List.length_nil]; decide) ?_; intro v5 w5 o5 k5; have g5 := g3.trans (k5.below f17 B3))
      | (refine step_row (by rfl) _ _ 22 (by rfl) Tryz.underlying22 hi hz0 hz1 hz2 (w.heap.size + 1) _ _ _ _ _ (by rfl) (by rfl) o2 B2 r20 (by simp only [List.length_append, nums_length, HL1.out, List.length_cons, List.length_nil]; decide) ?_; intro v5 w5 o5 k5; have g5 := g2.trans (k5.below o2 B2))
      | (refine step_row (by rfl) _ _ 22 (by rfl) Tryz.underlying22 hi hz0 hz1 hz2 (w.heap.size + 1) _ _ _ _ _ (by rfl) (by rfl) f12 B3 r16 (by simp only [List.length_append, nums_length, HL1.out, List.length_cons, List.length_nil]; decide) ?_; intro v2 w2 o2 k2; have g2 := g3.trans (k2.below f12 B3); have B2 : w.heap.size + 1 ≤ w2.heap.size := Nat.le_trans B3 k2.size; have r20 := own_rowB (own_kp o20 k2 HW.out) (nums_range _ _ _); obtain ⟨x0, x1, x2, x3, x4⟩ := req_box g2)
      | (refine step_row (by rfl) _ _ 22 (by rfl) Tryz.underlying22 hi hz0 hz1 hz2 (w.heap.size + 1) _ _ _ _ _ (by rfl) (by rfl) (own_alloc f12 _) (Nat.le_trans B3 (by simp)) (own_rowB (own_one _ w3 w3.heap.size _ (Nat.le_refl _)) (one_range (wrap_range _))) (by simp only [List.length_append, nums_length, HL1.out, List.length_cons, List.length_nil]; decide) ?_; intro v2 w2 o2 k2; have g2 := (g3.alloc B3 _).trans (k2.below (own_alloc f12 _) (Nat.le_trans B3 (by simp))); have B2 : w.heap.size + 1 ≤ w2.heap.size := Nat.le_trans B3 (Nat.le_trans (by simp) k2.size); have r20 := own_rowB (own_kp (own_alloc o20 _) k2 HW.out) (nums_range _ _ _); obtain ⟨x0, x1, x2, x3, x4⟩ := req_box g2)
      | (refine step_row (by rfl) _ _ 22 (by rfl) Tryz.underlying22 hi hz0 hz1 hz2 (w.heap.size + 1) _ _ _ _ _ (by rfl) (by rfl) (own_drew (own_alloc o1 _)) (Nat.le_trans B1 (by simp)) (rowB_drew (own_rowB (own_one _ wc wc.heap.size _ (Nat.le_refl _)) (one_range (wrap_range _)))) (by simp only [HL1.out, List.length_cons, List.length_nil]; decide) ?_; intro v2 w2 o2 k2; have g2 := (g1.alloc B1 _).drew.trans (k2.below (own_drew (own_alloc o1 _)) (Nat.le_trans B1 (by simp))); have B2 : w.heap.size + 1 ≤ w2.heap.size := Nat.le_trans B1 (Nat.le_trans (by simp) k2.size); obtain ⟨x0, x1, x2, x3, x4⟩ := req_box g2))
    all_goals
      rw [HN.out] at o5
      go_wp2_with fail
      go_meet
      exact ⟨o5, g5⟩
  case rest =>
  clear q2 q3 q4 o1 g1 B1
  obtain ⟨o1, g1⟩ := hcut
  have B1 : w.heap.size + 1 ≤ wc.heap.size := Nat.le_trans (Nat.le_of_eq hs0.out) g1.size
  obtain ⟨q0, q1, q2, q3, q4⟩ := req_box g1
  have q4a : ∀ o, (wc.alloc o).cell? ⟨w.heap.size, 4, none⟩ = some (.string n) := fun o => (req_box (g1.alloc B1 o)).2.2.2.2
  have HE : Hid (zs ++ nums k 1 1 ++ nums l 2 2 ++ nums (n.size : Int) 1 1 ++ bys n = reqBs c st k l n) := by show _ = _; rw [← HZ.out]; unfold reqBs; simp [List.append_assoc]
  have hl1 : (zs ++ nums k 1 1 ++ nums l 2 2).length = 6 := by simp only [List.length_append, nums_length, HL1.out]
  generalize zs ++ nums k 1 1 ++ nums l 2 2 = ys at o1 hl1 HE
  have HL2 : Hid (ys.length = 6) := hl1
  clear hl1 q0 q1 q2 q3
  go_upto_region 3 with fail
  go_region_law (first
    | (refine step_row (by rfl) _ _ 22 (by rfl) Tryz.underlying22 hi hz0 hz1 hz2 (w.heap.size + 1) _ _ _ _ _ (by rfl) (by rfl) (own_drew (own_alloc o1 _)) (Nat.le_trans B1 (by simp)) (rowB_drew (own_rowB (own_one _ wc wc.heap.size _ (Nat.le_refl _)) (one_range (wrap_range _)))) (by simp only [HL2.out, List.length_cons, List.length_nil]; decide) ?_; intro v2 w2 o2 k2; have g2 := (g1.alloc B1 _).drew.trans (k2.below (own_drew (own_alloc o1 _)) (Nat.le_trans B1 (by simp))); have B2 : w.heap.size + 1 ≤ w2.heap.size := Nat.le_trans B1 (Nat.le_trans (by simp) k2.size); obtain ⟨x0, x1, x2, x3, x4⟩ := req_box g2)
    | (refine step_str (by rfl) _ _ 22 9 (by rfl) Tryz.underlying22 Tryz.underlying9 hi hz0 hz1 hz2 (w.heap.size + 1) _ _ n _ (by rfl) (by rfl) o2 B2 (by simp only [List.length_append, HL2.out, List.length_cons, List.length_nil]; omega) ?_; intro v5 w5 o5 k5; have g5 := g2.trans (k5.below o2 B2)))
  all_goals
    rw [HN.out, HE.out] at o5
    go_wp2_with fail
    go_ret
    exact ⟨_, rfl, o5, g5⟩

end Go.Proofs.YtkfiahemgdppfaaGreatDoor.Rp

/- A list's bytes: both ListBytes functions. -/
namespace Go.Proofs.YtkfiahemgdppfaaGreatDoor.Lb
open Go.RowKit Go.Proofs.YtkfiahemgdppfaaGreatDoor.Sl Go.Proofs.YtkfiahemgdppfaaGreatDoor.By Go.Proofs.YtkfiahemgdppfaaGreatDoor.Rq Go.Proofs.YtkfiahemgdppfaaGreatDoor.Ap Go.Proofs.YtkfiahemgdppfaaGreatDoor.Pu Go.Proofs.YtkfiahemgdppfaaGreatDoor.Ty Go.Proofs.YtkfiahemgdppfaaGreatDoor.Rp Go.Proofs.YtkfiahemgdppfaaGreatDoor.Rr

/-- The bytes of the first k texts, how many there are ahead. -/
def listTo (ts : List ByteArray) : Nat → List Int
  | 0 => nums (ts.length : Int) 1 1
  | k + 1 => listTo ts k ++ (nums ((tnth ts k).size : Int) 2 2 ++ bys (tnth ts k))
def lenTo (ts : List ByteArray) : Nat → Nat
  | 0 => 1
  | k + 1 => lenTo ts k + (2 + (tnth ts k).size)
theorem listTo_length (ts : List ByteArray) : ∀ k, (listTo ts k).length = lenTo ts k
  | 0 => by unfold listTo lenTo; rw [nums_length]
  | k + 1 => by unfold listTo lenTo; rw [List.length_append, List.length_append, listTo_length ts k, nums_length, bys_length]
theorem listTo_range (ts : List ByteArray) : ∀ k, ∀ z ∈ listTo ts k, 0 ≤ z ∧ z ≤ 255
  | 0 => nums_range _ _ _
  | k + 1 => by
    intro z hz
    unfold listTo at hz
    rw [List.mem_append, List.mem_append] at hz
    rcases hz with h | h | h
    · exact listTo_range ts k z h
    · exact nums_range _ _ _ z h
    · exact bys_range _ z h
def bad (ts : List ByteArray) (k : Nat) : Bool := decide (20000 < (tnth ts k).size) || decide (65536 < lenTo ts (k + 1))
def cd (ts : List ByteArray) (k : Nat) : Int := if 20000 < (tnth ts k).size then 1 else 7
/-- What ListBytes answers. -/
def lbCode (ts : List ByteArray) : Int := if 4096 < ts.length then 2 else if 100 < ts.length then 1 else match (List.range ts.length).find? (bad ts) with
  | none => 0
  | some k => cd ts k
def lbOut (ts : List ByteArray) : List Int := if lbCode ts = 0 then listTo ts ts.length else []
theorem find_first (p : Nat → Bool) (n k : Nat) (hk : k < n) (h : ∀ j, j < k → p j = false) (hp : p k = true) : (List.range n).find? p = some k := by
  rw [List.find?_range_eq_some]
  exact ⟨hp, by simpa using hk, fun j hj => by simp [h j hj]⟩
theorem find_none (p : Nat → Bool) (n : Nat) (h : ∀ j, j < n → p j = false) : (List.range n).find? p = none := by
  rw [List.find?_eq_none]
  intro x hx
  simp [h x (by simpa using hx)]
theorem cd_pos (ts : List ByteArray) (k : Nat) : cd ts k ≠ 0 := by unfold cd; split <;> decide
theorem lb_bad (ts : List ByteArray) (k : Nat) (hl : ts.length ≤ 100) (hk : k < ts.length) (h : ∀ j, j < k → bad ts j = false) (hp : bad ts k = true) : lbCode ts = cd ts k ∧ lbOut ts = [] := by
  have e : lbCode ts = cd ts k := by unfold lbCode; rw [if_neg (by omega), if_neg (by omega), find_first _ _ k hk h hp]
  exact ⟨e, by unfold lbOut; rw [if_neg (by rw [e]; exact cd_pos ts k)]⟩
theorem lb_good (ts : List ByteArray) (hl : ts.length ≤ 100) (h : ∀ j, j < ts.length → bad ts j = false) : lbCode ts = 0 ∧ lbOut ts = listTo ts ts.length := by
  have e : lbCode ts = 0 := by unfold lbCode; rw [if_neg (by omega), if_neg (by omega), find_none _ _ h]
  exact ⟨e, by unfold lbOut; rw [if_pos e]⟩

end Go.Proofs.YtkfiahemgdppfaaGreatDoor.Lb
