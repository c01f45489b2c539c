/- Texts put together: Clr, Rym, Clt, Clu. -/
import Derived.Test.YtiflfcpoajijaaaDoorClb
import Derived.Test.YtiflfcpoajijaaaDoorJFnClients10
import Derived.Test.YtiflfcpoajijaaaDoorJFnClients8
import Derived.Test.YtiflfcpoajijaaaDoorJFnClients9
import Derived.Test.YtiflfcpoajijaaaDoorMr
/- New clients of both; marks on clients without lists. -/
namespace Go.Proofs.YtiflfcpoajijaaaDoor.Cl
open Go.RowKit Go.Proofs.YtiflfcpoajijaaaDoor.Sl Go.Proofs.YtiflfcpoajijaaaDoor.Rg
open Go.Proofs.YtiflfcpoajijaaaDoor.Rq (inB within_any)

def ncD (i : Int) : Cd := if inB i 0 255 = true then ⟨i, 0, false, 0, 0, 0, 0, ⟨#[]⟩, [], []⟩ else ⟨0, 0, false, 0, 0, 0, 0, ⟨#[]⟩, [], []⟩
def ncC (i : Int) : Int := if inB i 0 255 = true then 0 else 4
theorem ret_tup0 {a b : Value} {k l : Int} (h : a = b) (g : k = l) : Ending.returned (.tuple #[a, .int .i64 k]) = .returned (.tuple #[b, .int .i64 l]) := by rw [h, g]
theorem nc_yes {i : Int} (h : inB i 0 255 = true) : ncD i = ⟨i, 0, false, 0, 0, 0, 0, ⟨#[]⟩, [], []⟩ ∧ ncC i = 0 := ⟨if_pos h, if_pos h⟩
theorem nc_no {i : Int} (h : inB i 0 255 = false) : ncD i = ⟨0, 0, false, 0, 0, 0, 0, ⟨#[]⟩, [], []⟩ ∧ ncC i = 4 := ⟨if_neg (by rw [h]; decide), if_neg (by rw [h]; decide)⟩
set_option maxRecDepth 100000 in
set_option maxHeartbeats 1600000 in
theorem implNewClient_any (i : Int) (w : World) : Calls Tryd.prog 4 #[.int .i64 i] w fun e w' => e = .returned (.tuple #[clV (ncD i) (.slice none 0 0) (.slice none 0 0), .int .i64 (ncC i)]) ∧ Below w.heap.size w w' := by
  have HB : Hid ((w.alloc (.cells #[.int .i64 0, .int .i64 0, .bool false, .int .i64 0, .int .i64 0, .int .i64 0, .int .i64 0, .string ⟨#[]⟩, .slice none 0 0, .slice none 0 0] 28)).heap[w.heap.size]? = some (.cells #[.int .i64 0, .int .i64 0, .bool false, .int .i64 0, .int .i64 0, .int .i64 0, .int .i64 0, .string ⟨#[]⟩, .slice none 0 0, .slice none 0 0] 28) ∧ Below w.heap.size w (w.alloc (.cells #[.int .i64 0, .int .i64 0, .bool false, .int .i64 0, .int .i64 0, .int .i64 0, .int .i64 0, .string ⟨#[]⟩, .slice none 0 0, .slice none 0 0] 28))) := ⟨heap_alloc_new _ _, bel_new _ _⟩
  unfold clV
  go_enter Tryd.func4, Tryd.ntmps4
  go_upto_region 1 with fail
  generalize w.alloc (.cells #[.int .i64 0, .int .i64 0, .bool false, .int .i64 0, .int .i64 0, .int .i64 0, .int .i64 0, .string ⟨#[]⟩, .slice none 0 0, .slice none 0 0] 28) = wb at HB ⊢
  go_wp2_with fail
  refine (within_any i 0 255 _).mono ?_
  rintro e w2 ⟨rfl, hw⟩
  subst hw
  cases hi : inB i 0 255 with
  | false =>
    have HV : Hid (ncD i = ⟨0, 0, false, 0, 0, 0, 0, ⟨#[]⟩, [], []⟩ ∧ ncC i = 4) := nc_no hi
    clear hi
    obtain ⟨z0, fz0⟩ := Rg.blk_cell HB.out.1 0 (x := .int .i64 0) rfl
    obtain ⟨z1, fz1⟩ := Rg.blk_cell HB.out.1 1 (x := .int .i64 0) rfl
    obtain ⟨z2, fz2⟩ := Rg.blk_cell HB.out.1 2 (x := .bool false) rfl
    obtain ⟨z3, fz3⟩ := Rg.blk_cell HB.out.1 3 (x := .int .i64 0) rfl
    obtain ⟨z4, fz4⟩ := Rg.blk_cell HB.out.1 4 (x := .int .i64 0) rfl
    obtain ⟨z5, fz5⟩ := Rg.blk_cell HB.out.1 5 (x := .int .i64 0) rfl
    obtain ⟨z6, fz6⟩ := Rg.blk_cell HB.out.1 6 (x := .int .i64 0) rfl
    obtain ⟨z7, fz7⟩ := Rg.blk_cell HB.out.1 7 (x := .string ⟨#[]⟩) rfl
    obtain ⟨z8, fz8⟩ := Rg.blk_cell HB.out.1 8 (x := .slice none 0 0) rfl
    obtain ⟨z9, fz9⟩ := Rg.blk_cell HB.out.1 9 (x := .slice none 0 0) rfl
    obtain ⟨AF, _, GF0⟩ := set10 (.int .i64 0) (.int .i64 0) (.bool false) (.int .i64 0) (.int .i64 0) (.int .i64 0) (.int .i64 0) (.string ⟨#[]⟩) (.slice none 0 0) (.slice none 0 0) (.int .i64 0) (.int .i64 0) (.bool false) (.int .i64 0) (.int .i64 0) (.int .i64 0) (.int .i64 0) (.string ⟨#[]⟩) (.slice none 0 0) (.slice none 0 0) HB.out.1
    have GF := GF0 HB.out.2 (Nat.le_refl _)
    clear GF0
    go_wp2_with fail
    generalize ((((((((((w2.setCell ⟨w.heap.size, 0, none⟩ (.int .i64 0)).setCell ⟨w.heap.size, 1, none⟩ (.int .i64 0)).setCell ⟨w.heap.size, 2, none⟩ (.bool false)).setCell ⟨w.heap.size, 3, none⟩ (.int .i64 0)).setCell ⟨w.heap.size, 4, none⟩ (.int .i64 0)).setCell ⟨w.heap.size, 5, none⟩ (.int .i64 0)).setCell ⟨w.heap.size, 6, none⟩ (.int .i64 0)).setCell ⟨w.heap.size, 7, none⟩ (.string ⟨#[]⟩)).setCell ⟨w.heap.size, 8, none⟩ (.slice none 0 0)).setCell ⟨w.heap.size, 9, none⟩ (.slice none 0 0)) = wf at AF GF ⊢
    have d0 := (Rg.blk_cell AF 0 (x := .int .i64 0) rfl).1
    have d1 := (Rg.blk_cell AF 1 (x := .int .i64 0) rfl).1
    have d2 := (Rg.blk_cell AF 2 (x := .bool false) rfl).1
    have d3 := (Rg.blk_cell AF 3 (x := .int .i64 0) rfl).1
    have d4 := (Rg.blk_cell AF 4 (x := .int .i64 0) rfl).1
    have d5 := (Rg.blk_cell AF 5 (x := .int .i64 0) rfl).1
    have d6 := (Rg.blk_cell AF 6 (x := .int .i64 0) rfl).1
    have d7 := (Rg.blk_cell AF 7 (x := .string ⟨#[]⟩) rfl).1
    have d8 := (Rg.blk_cell AF 8 (x := .slice none 0 0) rfl).1
    have d9 := (Rg.blk_cell AF 9 (x := .slice none 0 0) rfl).1
    exact bodyPost_ret (v := .tuple #[.agg #[.int .i64 0, .int .i64 0, .bool false, .int .i64 0, .int .i64 0, .int .i64 0, .int .i64 0, .string ⟨#[]⟩, .slice none 0 0, .slice none 0 0], .int .i64 4]) (by simp [results, Tryd.results4, go_sem, d0, d1, d2, d3, d4, d5, d6, d7, d8, d9]) rfl ⟨ret_tup0 (by rw [HV.out.1]) HV.out.2.symm, GF⟩
  | true =>
    have HV : Hid (ncD i = ⟨i, 0, false, 0, 0, 0, 0, ⟨#[]⟩, [], []⟩ ∧ ncC i = 0) := nc_yes hi
    clear hi
    obtain ⟨z0, fz0⟩ := Rg.blk_cell HB.out.1 0 (x := .int .i64 0) rfl
    obtain ⟨z1, fz1⟩ := Rg.blk_cell HB.out.1 1 (x := .int .i64 0) rfl
    obtain ⟨z2, fz2⟩ := Rg.blk_cell HB.out.1 2 (x := .bool false) rfl
    obtain ⟨z3, fz3⟩ := Rg.blk_cell HB.out.1 3 (x := .int .i64 0) rfl
    obtain ⟨z4, fz4⟩ := Rg.blk_cell HB.out.1 4 (x := .int .i64 0) rfl
    obtain ⟨z5, fz5⟩ := Rg.blk_cell HB.out.1 5 (x := .int .i64 0) rfl
    obtain ⟨z6, fz6⟩ := Rg.blk_cell HB.out.1 6 (x := .int .i64 0) rfl
    obtain ⟨z7, fz7⟩ := Rg.blk_cell HB.out.1 7 (x := .string ⟨#[]⟩) rfl
    obtain ⟨z8, fz8⟩ := Rg.blk_cell HB.out.1 8 (x := .slice none 0 0) rfl
    obtain ⟨z9, fz9⟩ := Rg.blk_cell HB.out.1 9 (x := .slice none 0 0) rfl
    obtain ⟨AF, _, GF0⟩ := set10 (.int .i64 0) (.int .i64 0) (.bool false) (.int .i64 0) (.int .i64 0) (.int .i64 0) (.int .i64 0) (.string ⟨#[]⟩) (.slice none 0 0) (.slice none 0 0) (.int .i64 i) (.int .i64 0) (.bool false) (.int .i64 0) (.int .i64 0) (.int .i64 0) (.int .i64 0) (.string ⟨#[]⟩) (.slice none 0 0) (.slice none 0 0) HB.out.1
    have GF := GF0 HB.out.2 (Nat.le_refl _)
    clear GF0
    go_wp2_with fail
    generalize ((((((((((w2.setCell ⟨w.heap.size, 0, none⟩ (.int .i64 i)).setCell ⟨w.heap.size, 1, none⟩ (.int .i64 0)).setCell ⟨w.heap.size, 2, none⟩ (.bool false)).setCell ⟨w.heap.size, 3, none⟩ (.int .i64 0)).setCell ⟨w.heap.size, 4, none⟩ (.int .i64 0)).setCell ⟨w.heap.size, 5, none⟩ (.int .i64 0)).setCell ⟨w.heap.size, 6, none⟩ (.int .i64 0)).setCell ⟨w.heap.size, 7, none⟩ (.string ⟨#[]⟩)).setCell ⟨w.heap.size, 8, none⟩ (.slice none 0 0)).setCell ⟨w.heap.size, 9, none⟩ (.slice none 0 0)) = wf at AF GF ⊢
    have d0 := (Rg.blk_cell AF 0 (x := .int .i64 i) rfl).1
    have d1 := (Rg.blk_cell AF 1 (x := .int .i64 0) rfl).1
    have d2 := (Rg.blk_cell AF 2 (x := .bool false) rfl).1
    have d3 := (Rg.blk_cell AF 3 (x := .int .i64 0) rfl).1
    have d4 := (Rg.blk_cell AF 4 (x := .int .i64 0) rfl).1
    have d5 := (Rg.blk_cell AF 5 (x := .int .i64 0) rfl).1
    have d6 := (Rg.blk_cell AF 6 (x := .int .i64 0) rfl).1
    have d7 := (Rg.blk_cell AF 7 (x := .string ⟨#[]⟩) rfl).1
    have d8 := (Rg.blk_cell AF 8 (x := .slice none 0 0) rfl).1
    have d9 := (Rg.blk_cell AF 9 (x := .slice none 0 0) rfl).1
    exact bodyPost_ret (v := .tuple #[.agg #[.int .i64 i, .int .i64 0, .bool false, .int .i64 0, .int .i64 0, .int .i64 0, .int .i64 0, .string ⟨#[]⟩, .slice none 0 0, .slice none 0 0], .int .i64 0]) (by simp [results, Tryd.results4, go_sem, d0, d1, d2, d3, d4, d5, d6, d7, d8, d9]) rfl ⟨ret_tup0 (by rw [HV.out.1]) HV.out.2.symm, GF⟩
end Go.Proofs.YtiflfcpoajijaaaDoor.Cl

/- Answers and requests that are drawn (a byte more than a law's argument may have). -/
namespace Go.Proofs.YtiflfcpoajijaaaDoor.Gn
open Go.RowKit Go.Proofs.YtiflfcpoajijaaaDoor.Sl Go.Proofs.YtiflfcpoajijaaaDoor.By Go.Proofs.YtiflfcpoajijaaaDoor.Ap Go.Proofs.YtiflfcpoajijaaaDoor.Rq Go.Proofs.YtiflfcpoajijaaaDoor.Rr Go.Proofs.YtiflfcpoajijaaaDoor.Ty
open Go.Proofs.YtiflfcpoajijaaaDoor.Rg (bel_new)
set_option maxHeartbeats 400000 in
theorem RequestOf_wide (v : Value) (xs : List Int) (w : World) (h : RowB w v xs) (hx : xs.length ≤ 1048600) :
    Calls Tryd.prog 6 #[v] w fun e w' => ∃ (c st k l : Int) (n : ByteArray), e = .returned (.agg #[.int .i64 c, .int .i64 st, .int .i64 k, .int .i64 l, .string n]) ∧ reqB c st k l n = true ∧ Below w.heap.size w w' := by
  have B0 : Below w.heap.size w (w.alloc (.cells #[.int .i64 0, .int .i64 0, .int .i64 0, .int .i64 0, .string ⟨#[]⟩] 24)) := bel_new _ _
  have R0 : Hid (RowB (w.alloc (.cells #[.int .i64 0, .int .i64 0, .int .i64 0, .int .i64 0, .string ⟨#[]⟩] 24)) v xs) := h.below B0
  have A0 : Hid ((w.alloc (.cells #[.int .i64 0, .int .i64 0, .int .i64 0, .int .i64 0, .string ⟨#[]⟩] 24)).heap[w.heap.size]? = some (.cells #[.int .i64 0, .int .i64 0, .int .i64 0, .int .i64 0, .string ⟨#[]⟩] 24 (0, 0))) := blk_new _ _ _
  have hsz0 : (w.alloc (.cells #[.int .i64 0, .int .i64 0, .int .i64 0, .int .i64 0, .string ⟨#[]⟩] 24)).heap.size = w.heap.size + 1 := size_new _ _
  clear h
  go_enter Tryd.func6, Tryd.ntmps6
  go_wp2_with fail
  refine (source_any _ xs _ R0.out hx).mono ?_
  rw [hsz0]
  rintro e w1 ⟨rfl, s1, b1⟩
  have l1 := s1.lt
  have A1 : Hid (w1.heap[w.heap.size]? = some (.cells #[.int .i64 0, .int .i64 0, .int .i64 0, .int .i64 0, .string ⟨#[]⟩] 24 (0, 0))) := (b1.block _ (by omega)).trans A0.out
  have S1 : Hid (Src (w.heap.size + 1) w1 (w.heap.size + 1) xs 0) := s1
  have B1 : Hid (Below w.heap.size w w1) := B0.trans (b1.mono (by omega))
  clear s1 b1 B0 R0 A0 hsz0
  go_wp2_with fail
  refine (request_any (w.heap.size + 1) (w.heap.size + 1) 0 xs _ S1.out (Nat.le_refl _) (by decide) hx).mono ?_
  rintro e w2 ⟨c, st, k, l, n, rfl, hq, s2, g2⟩
  have A2 : Hid (w2.heap[w.heap.size]? = some (.cells #[.int .i64 0, .int .i64 0, .int .i64 0, .int .i64 0, .string ⟨#[]⟩] 24 (0, 0))) := blk_kept A1.out g2 (by omega)
  have B2 : Hid (Below w.heap.size w w2) := ⟨g2.os.trans B1.out.os, g2.tape.trans B1.out.tape, g2.output.trans B1.out.output, Nat.le_trans B1.out.size g2.size, fun k hk => (g2.block k (Nat.lt_of_lt_of_le hk B1.out.size) (by simp; omega)).trans (B1.out.block k hk)⟩
  have HQ : Hid (reqB c st k l n = true) := hq
  clear hq
  clear s2 g2 A1 S1 B1
  obtain ⟨ca0, fa0⟩ := blk_cell A2.out 0 (x := .int .i64 0) rfl
  obtain ⟨ca1, fa1⟩ := blk_cell A2.out 1 (x := .int .i64 0) rfl
  obtain ⟨ca2, fa2⟩ := blk_cell A2.out 2 (x := .int .i64 0) rfl
  obtain ⟨ca3, fa3⟩ := blk_cell A2.out 3 (x := .int .i64 0) rfl
  obtain ⟨ca4, fa4⟩ := blk_cell A2.out 4 (x := .string ⟨#[]⟩) rfl
  have AF : ((((((w2.setCell ⟨w.heap.size, 0, none⟩ (.int .i64 c)).setCell ⟨w.heap.size, 1, none⟩ (.int .i64 st)).setCell ⟨w.heap.size, 2, none⟩ (.int .i64 k)).setCell ⟨w.heap.size, 3, none⟩ (.int .i64 l)).setCell ⟨w.heap.size, 4, none⟩ (.string n))).heap[w.heap.size]? = some (.cells #[.int .i64 c, .int .i64 st, .int .i64 k, .int .i64 l, .string n] 24 (0, 0)) := (blk_set (blk_set (blk_set (blk_set (blk_set A2.out 0 (.int .i64 c)) 1 (.int .i64 st)) 2 (.int .i64 k)) 3 (.int .i64 l)) 4 (.string n))
  have BF : Hid (Below w.heap.size w (((((w2.setCell ⟨w.heap.size, 0, none⟩ (.int .i64 c)).setCell ⟨w.heap.size, 1, none⟩ (.int .i64 st)).setCell ⟨w.heap.size, 2, none⟩ (.int .i64 k)).setCell ⟨w.heap.size, 3, none⟩ (.int .i64 l)).setCell ⟨w.heap.size, 4, none⟩ (.string n))) := (Below.setCell (Below.setCell (Below.setCell (Below.setCell (Below.setCell B2.out (p := ⟨w.heap.size, 0, none⟩) (Nat.le_refl _) (.int .i64 c)) (p := ⟨w.heap.size, 1, none⟩) (Nat.le_refl _) (.int .i64 st)) (p := ⟨w.heap.size, 2, none⟩) (Nat.le_refl _) (.int .i64 k)) (p := ⟨w.heap.size, 3, none⟩) (Nat.le_refl _) (.int .i64 l)) (p := ⟨w.heap.size, 4, none⟩) (Nat.le_refl _) (.string n))
  go_wp2_with fail
  generalize (((((w2.setCell ⟨w.heap.size, 0, none⟩ (.int .i64 c)).setCell ⟨w.heap.size, 1, none⟩ (.int .i64 st)).setCell ⟨w.heap.size, 2, none⟩ (.int .i64 k)).setCell ⟨w.heap.size, 3, none⟩ (.int .i64 l)).setCell ⟨w.heap.size, 4, none⟩ (.string n)) = wf at AF BF ⊢
  have d0 := (blk_cell AF 0 (x := .int .i64 c) rfl).1
  have d1 := (blk_cell AF 1 (x := .int .i64 st) rfl).1
  have d2 := (blk_cell AF 2 (x := .int .i64 k) rfl).1
  have d3 := (blk_cell AF 3 (x := .int .i64 l) rfl).1
  have d4 := (blk_cell AF 4 (x := .string n) rfl).1
  exact bodyPost_ret (v := .agg #[.int .i64 c, .int .i64 st, .int .i64 k, .int .i64 l, .string n]) (by simp [results, Tryd.results6, go_sem, d0, d1, d2, d3, d4]) rfl ⟨_, _, _, _, _, rfl, HQ.out, BF.out⟩
end Go.Proofs.YtiflfcpoajijaaaDoor.Gn
namespace Go.Proofs.YtiflfcpoajijaaaDoor.Rl13
open Go.RowKit Go.Proofs.YtiflfcpoajijaaaDoor.Sl Go.Proofs.YtiflfcpoajijaaaDoor.Rg Go.Proofs.YtiflfcpoajijaaaDoor.Gn Go.Proofs.YtiflfcpoajijaaaDoor.Ry Go.Proofs.YtiflfcpoajijaaaDoor.Rk
open Go.Proofs.YtiflfcpoajijaaaDoor.Gy (Re)
open Go.Proofs.YtiflfcpoajijaaaDoor.Rm (inR inR_nat)
open Go.Proofs.YtiflfcpoajijaaaDoor.Rr (blk_kept)
/-- A right answer, whose token may rise by one. -/
def okA (a : An) : Bool := anB a.1 a.2.1 a.2.2.1 a.2.2.2
def tkB (a : An) : Bool := okA a && decide (a.2.1 ≤ 2)
set_option maxRecDepth 100000 in
set_option maxHeartbeats 3200000 in
theorem answer_any (p B K : Nat) (xs : List Int) (w : World) (h : Gn.Src B w p xs K) (hB : B ≤ p) (hK : K ≤ 1000) (hx : xs.length ≤ 1048600) :
    Calls Tryd.prog 17 #[.pointer (some ⟨p, 0, none⟩)] w fun e w' => ∃ a : An, e = .returned (anV a) ∧ tkB a = true ∧ Below B w w' := by
  have HS : Hid (Gn.Src B (w.alloc (.cells #[.int .i64 0, .int .i64 0, .int .i64 0, .int .i64 0] 35)) p xs K ∧ w.heap.size ≠ p) := ⟨h.kept (Below.heap_alloc w _ p h.lt) (fun k hk => Below.heap_alloc w _ k (by have := h.lt; omega)), by have := h.lt; omega⟩
  have HZ : Hid ((w.alloc (.cells #[.int .i64 0, .int .i64 0, .int .i64 0, .int .i64 0] 35)).heap[w.heap.size]? = some (.cells #[.int .i64 0, .int .i64 0, .int .i64 0, .int .i64 0] 35 (0, 0))) := heap_alloc_new w _
  have HB : Hid (Below B w (w.alloc (.cells #[.int .i64 0, .int .i64 0, .int .i64 0, .int .i64 0] 35)) ∧ B ≤ w.heap.size) := ⟨(bel_new w _).mono (by have := h.lt; omega), by have := h.lt; omega⟩
  clear h
  go_enter Tryd.func17, Tryd.ntmps17
  go_upto_region 1 with fail
  generalize w.alloc (.cells #[.int .i64 0, .int .i64 0, .int .i64 0, .int .i64 0] 35) = w0 at HS HZ HB ⊢
  have T0 : Hid (Gn.Src B w0 p xs (K + 0) ∧ w0.heap[w.heap.size]? = some (.cells #[.int .i64 0, .int .i64 0, .int .i64 0, .int .i64 0] 35 (0, 0)) ∧ Below B w w0) := ⟨HS.out.1, HZ.out, HB.out.1⟩
  go_wp2_with fail
  refine (next_any 8 p B (K + 0) xs w0 T0.out.1 hB (by omega) hx (by decide) (by decide)).mono ?_
  rintro e w1 ⟨r1, rfl, hr1, s1, g1⟩
  have T1 : Hid (Gn.Src B w1 p xs (K + 1) ∧ w1.heap[w.heap.size]? = some (.cells #[.int .i64 0, .int .i64 0, .int .i64 0, .int .i64 0] 35 (0, 0)) ∧ Below B w w1) := ⟨s1, blk_kept T0.out.2.1 g1 HS.out.2, T0.out.2.2.grown g1 (Nat.le_trans HB.out.2 T0.out.2.2.size) (fun k hk => by simp at hk; omega)⟩
  have q1 : (r1 : Int) < 8 := by omega
  clear s1 g1
  go_wp2_with fail
  refine (next_any 3 p B (K + 1) xs w1 T1.out.1 hB (by omega) hx (by decide) (by decide)).mono ?_
  rintro e w2 ⟨r2, rfl, hr2, s2, g2⟩
  have T2 : Hid (Gn.Src B w2 p xs (K + 2) ∧ w2.heap[w.heap.size]? = some (.cells #[.int .i64 0, .int .i64 0, .int .i64 0, .int .i64 0] 35 (0, 0)) ∧ Below B w w2) := ⟨s2, blk_kept T1.out.2.1 g2 HS.out.2, T1.out.2.2.grown g2 (Nat.le_trans HB.out.2 T1.out.2.2.size) (fun k hk => by simp at hk; omega)⟩
  have q2 : (r2 : Int) < 3 := by omega
  clear s2 g2
  go_wp2_with fail
  refine (next_any 3 p B (K + 2) xs w2 T2.out.1 hB (by omega) hx (by decide) (by decide)).mono ?_
  rintro e w3 ⟨r3, rfl, hr3, s3, g3⟩
  have T3 : Hid (Gn.Src B w3 p xs (K + 3) ∧ w3.heap[w.heap.size]? = some (.cells #[.int .i64 0, .int .i64 0, .int .i64 0, .int .i64 0] 35 (0, 0)) ∧ Below B w w3) := ⟨s3, blk_kept T2.out.2.1 g3 HS.out.2, T2.out.2.2.grown g3 (Nat.le_trans HB.out.2 T2.out.2.2.size) (fun k hk => by simp at hk; omega)⟩
  have q3 : (r3 : Int) < 3 := by omega
  clear s3 g3
  go_wp2_with fail
  refine (next_any 3 p B (K + 3) xs w3 T3.out.1 hB (by omega) hx (by decide) (by decide)).mono ?_
  rintro e w4 ⟨r4, rfl, hr4, s4, g4⟩
  have T4 : Hid (Gn.Src B w4 p xs (K + 4) ∧ w4.heap[w.heap.size]? = some (.cells #[.int .i64 0, .int .i64 0, .int .i64 0, .int .i64 0] 35 (0, 0)) ∧ Below B w w4) := ⟨s4, blk_kept T3.out.2.1 g4 HS.out.2, T3.out.2.2.grown g4 (Nat.le_trans HB.out.2 T3.out.2.2.size) (fun k hk => by simp at hk; omega)⟩
  have q4 : (r4 : Int) < 3 := by omega
  clear s4 g4
  obtain ⟨m0, n0⟩ := blk_cell T4.out.2.1 0 (x := .int .i64 0) rfl
  obtain ⟨m1, n1⟩ := blk_cell T4.out.2.1 1 (x := .int .i64 0) rfl
  obtain ⟨m2, n2⟩ := blk_cell T4.out.2.1 2 (x := .int .i64 0) rfl
  obtain ⟨m3, n3⟩ := blk_cell T4.out.2.1 3 (x := .int .i64 0) rfl
  have AF : ((((w4.setCell ⟨w.heap.size, 0, none⟩ (.int .i64 (1 + (r1 : Int)))).setCell ⟨w.heap.size, 1, none⟩ (.int .i64 (r2 : Int))).setCell ⟨w.heap.size, 2, none⟩ (.int .i64 ((r3 : Int) - 1))).setCell ⟨w.heap.size, 3, none⟩ (.int .i64 ((r4 : Int) * 10))).heap[w.heap.size]? = some (.cells #[.int .i64 (1 + (r1 : Int)), .int .i64 (r2 : Int), .int .i64 ((r3 : Int) - 1), .int .i64 ((r4 : Int) * 10)] 35 (0, 0)) := (blk_set (blk_set (blk_set (blk_set T4.out.2.1 _ _) _ _) _ _) _ _)
  have GF : Below B w ((((w4.setCell ⟨w.heap.size, 0, none⟩ (.int .i64 (1 + (r1 : Int)))).setCell ⟨w.heap.size, 1, none⟩ (.int .i64 (r2 : Int))).setCell ⟨w.heap.size, 2, none⟩ (.int .i64 ((r3 : Int) - 1))).setCell ⟨w.heap.size, 3, none⟩ (.int .i64 ((r4 : Int) * 10))) := (Below.setCell (Below.setCell (Below.setCell (Below.setCell T4.out.2.2 (p := ⟨w.heap.size, 0, none⟩) HB.out.2 (.int .i64 (1 + (r1 : Int)))) (p := ⟨w.heap.size, 1, none⟩) HB.out.2 (.int .i64 (r2 : Int))) (p := ⟨w.heap.size, 2, none⟩) HB.out.2 (.int .i64 ((r3 : Int) - 1))) (p := ⟨w.heap.size, 3, none⟩) HB.out.2 (.int .i64 ((r4 : Int) * 10)))
  have HOK : Hid (tkB (1 + (r1 : Int), (r2 : Int), (r3 : Int) - 1, (r4 : Int) * 10) = true) := by
    show _ = _
    unfold tkB okA anB inR
    simp
    omega
  go_wp2_with fail
  generalize ((((w4.setCell ⟨w.heap.size, 0, none⟩ (.int .i64 (1 + (r1 : Int)))).setCell ⟨w.heap.size, 1, none⟩ (.int .i64 (r2 : Int))).setCell ⟨w.heap.size, 2, none⟩ (.int .i64 ((r3 : Int) - 1))).setCell ⟨w.heap.size, 3, none⟩ (.int .i64 ((r4 : Int) * 10))) = wf at AF GF ⊢
  have d0 := (blk_cell AF 0 (x := .int .i64 (1 + (r1 : Int))) rfl).1
  have d1 := (blk_cell AF 1 (x := .int .i64 (r2 : Int)) rfl).1
  have d2 := (blk_cell AF 2 (x := .int .i64 ((r3 : Int) - 1)) rfl).1
  have d3 := (blk_cell AF 3 (x := .int .i64 ((r4 : Int) * 10)) rfl).1
  exact bodyPost_ret (v := .agg #[.int .i64 (1 + (r1 : Int)), .int .i64 (r2 : Int), .int .i64 ((r3 : Int) - 1), .int .i64 ((r4 : Int) * 10)]) (by simp [results, Tryd.results17, go_sem, d0, d1, d2, d3]) rfl ⟨(1 + (r1 : Int), (r2 : Int), (r3 : Int) - 1, (r4 : Int) * 10), rfl, HOK.out, GF⟩
set_option maxRecDepth 100000 in
set_option maxHeartbeats 3200000 in
theorem AnswerOf_any (v : Value) (xs : List Int) (w : World) (h : RowB w v xs) (hx : xs.length ≤ 1048600) :
    Calls Tryd.prog 8 #[v] w fun e w' => ∃ a : An, e = .returned (anV a) ∧ tkB a = true ∧ Below w.heap.size w w' := by
  have HR : Hid (RowB (w.alloc (.cells #[.int .i64 0, .int .i64 0, .int .i64 0, .int .i64 0] 35)) v xs ∧ (w.alloc (.cells #[.int .i64 0, .int .i64 0, .int .i64 0, .int .i64 0] 35)).heap[w.heap.size]? = some (.cells #[.int .i64 0, .int .i64 0, .int .i64 0, .int .i64 0] 35 (0, 0)) ∧ Below w.heap.size w (w.alloc (.cells #[.int .i64 0, .int .i64 0, .int .i64 0, .int .i64 0] 35)) ∧ w.heap.size < (w.alloc (.cells #[.int .i64 0, .int .i64 0, .int .i64 0, .int .i64 0] 35)).heap.size) := ⟨h.below (bel_new _ _), heap_alloc_new w _, bel_new _ _, by simp⟩
  clear h
  go_enter Tryd.func8, Tryd.ntmps8
  go_upto_region 1 with fail
  generalize w.alloc (.cells #[.int .i64 0, .int .i64 0, .int .i64 0, .int .i64 0] 35) = w0 at HR ⊢
  go_wp2_with fail
  refine (source_any v xs w0 HR.out.1 hx).mono ?_
  rintro e w1 ⟨rfl, s1, b1⟩
  have HS : Hid (Gn.Src w0.heap.size w1 w0.heap.size xs 0 ∧ Below w0.heap.size w0 w1) := ⟨s1, b1⟩
  clear s1 b1
  go_wp2_with fail
  refine (answer_any w0.heap.size w0.heap.size 0 xs w1 HS.out.1 (Nat.le_refl _) (by decide) hx).mono ?_
  rintro e w2 ⟨a, rfl, ha, b2⟩
  have HA : Hid (tkB a = true) := ha
  have A2 : Hid (w2.heap[w.heap.size]? = some (.cells #[.int .i64 0, .int .i64 0, .int .i64 0, .int .i64 0] 35 (0, 0))) := ((HS.out.2.trans b2).block _ HR.out.2.2.2).trans HR.out.2.1
  have G2 : Hid (Below w.heap.size w w2) := HR.out.2.2.1.trans ((HS.out.2.trans b2).mono (Nat.le_of_lt HR.out.2.2.2))
  clear ha b2
  obtain ⟨m0, n0⟩ := blk_cell A2.out 0 (x := .int .i64 0) rfl
  obtain ⟨m1, n1⟩ := blk_cell A2.out 1 (x := .int .i64 0) rfl
  obtain ⟨m2, n2⟩ := blk_cell A2.out 2 (x := .int .i64 0) rfl
  obtain ⟨m3, n3⟩ := blk_cell A2.out 3 (x := .int .i64 0) rfl
  have AF : ((((w2.setCell ⟨w.heap.size, 0, none⟩ (.int .i64 a.1)).setCell ⟨w.heap.size, 1, none⟩ (.int .i64 a.2.1)).setCell ⟨w.heap.size, 2, none⟩ (.int .i64 a.2.2.1)).setCell ⟨w.heap.size, 3, none⟩ (.int .i64 a.2.2.2)).heap[w.heap.size]? = some (.cells #[.int .i64 a.1, .int .i64 a.2.1, .int .i64 a.2.2.1, .int .i64 a.2.2.2] 35 (0, 0)) := (blk_set (blk_set (blk_set (blk_set A2.out _ _) _ _) _ _) _ _)
  have GF : Below w.heap.size w ((((w2.setCell ⟨w.heap.size, 0, none⟩ (.int .i64 a.1)).setCell ⟨w.heap.size, 1, none⟩ (.int .i64 a.2.1)).setCell ⟨w.heap.size, 2, none⟩ (.int .i64 a.2.2.1)).setCell ⟨w.heap.size, 3, none⟩ (.int .i64 a.2.2.2)) := (Below.setCell (Below.setCell (Below.setCell (Below.setCell G2.out (p := ⟨w.heap.size, 0, none⟩) (Nat.le_refl _) (.int .i64 a.1)) (p := ⟨w.heap.size, 1, none⟩) (Nat.le_refl _) (.int .i64 a.2.1)) (p := ⟨w.heap.size, 2, none⟩) (Nat.le_refl _) (.int .i64 a.2.2.1)) (p := ⟨w.heap.size, 3, none⟩) (Nat.le_refl _) (.int .i64 a.2.2.2))
  unfold anV
  go_wp2_with fail
  generalize ((((w2.setCell ⟨w.heap.size, 0, none⟩ (.int .i64 a.1)).setCell ⟨w.heap.size, 1, none⟩ (.int .i64 a.2.1)).setCell ⟨w.heap.size, 2, none⟩ (.int .i64 a.2.2.1)).setCell ⟨w.heap.size, 3, none⟩ (.int .i64 a.2.2.2)) = wf at AF GF ⊢
  have d0 := (blk_cell AF 0 (x := .int .i64 a.1) rfl).1
  have d1 := (blk_cell AF 1 (x := .int .i64 a.2.1) rfl).1
  have d2 := (blk_cell AF 2 (x := .int .i64 a.2.2.1) rfl).1
  have d3 := (blk_cell AF 3 (x := .int .i64 a.2.2.2) rfl).1
  exact bodyPost_ret (v := .agg #[.int .i64 a.1, .int .i64 a.2.1, .int .i64 a.2.2.1, .int .i64 a.2.2.2]) (by simp [results, Tryd.results8, go_sem, d0, d1, d2, d3]) rfl ⟨a, rfl, HA.out, GF⟩
end Go.Proofs.YtiflfcpoajijaaaDoor.Rl13

/- A client's call, four replies to it (one that lies, twice; two that do not), as functions. -/
namespace Go.Proofs.YtiflfcpoajijaaaDoor.Rl13
open Go.RowKit Go.Proofs.YtiflfcpoajijaaaDoor.Ry Go.Proofs.YtiflfcpoajijaaaDoor.Rk Go.Proofs.YtiflfcpoajijaaaDoor.Cl
open Go.Proofs.YtiflfcpoajijaaaDoor.Gy (Re)
open Go.Proofs.YtiflfcpoajijaaaDoor.Rm (inR inR_nat)
open Go.Proofs.YtiflfcpoajijaaaDoor.Rq (reqB inB leB opB)
open Go.Proofs.YtiflfcpoajijaaaDoor.Tm (fCode fOut f_cases)

/-- A node's reply to the call of that stamp. -/
def rp (id st : Nat) (k : Nat) (a : An) : Re := mkR (k : Int) (id : Int) (st : Int) a.1 a.2.1 a.2.2.1 a.2.2.2
theorem rymk_mc (n c s k t h e0 : Int) (m m' : ByteArray) : rymk ⟨n, c, s, k, t, h, e0, m⟩ = rymk ⟨n, c, s, k, t, h, e0, m'⟩ := by unfold rymk reBs; rfl
theorem foB_mc (n c s k t h e0 : Int) (m m' : ByteArray) : foB ⟨n, c, s, k, t, h, e0, m⟩ = foB ⟨n, c, s, k, t, h, e0, m'⟩ := by unfold foB; rfl
theorem rp_fo {id st k : Nat} {a : An} (hi : id ≤ 255) (h1 : 1 ≤ st) (h2 : st ≤ 65535) (hk : k ≤ 6) (ha : okA a = true) : foB (r0 (k : Int) (id : Int) (st : Int) a.1 a.2.1 a.2.2.1 a.2.2.2) = true := by
  have q1 : inR (k : Int) 0 6 = true := by unfold inR; simp; omega
  have q2 : inR (id : Int) 0 255 = true := by unfold inR; simp; omega
  have q3 : inR (st : Int) 1 65535 = true := by unfold inR; simp; omega
  unfold foB r0
  unfold okA at ha
  simp only [q1, q2, q3, ha]
  rfl
theorem rp_eq {id st k : Nat} {a : An} (hi : id ≤ 255) (h1 : 1 ≤ st) (h2 : st ≤ 65535) (hk : k ≤ 6) (ha : okA a = true) : rp id st k a = ⟨k, id, st, a.1, a.2.1, a.2.2.1, a.2.2.2, rymk (r0 (k : Int) (id : Int) (st : Int) a.1 a.2.1 a.2.2.1 a.2.2.2)⟩ ∧ mkC (k : Int) (id : Int) (st : Int) a.1 a.2.1 a.2.2.1 a.2.2.2 = 0 := mk_yes (rp_fo hi h1 h2 hk ha)
theorem rp_an {id st k : Nat} {a : An} (hi : id ≤ 255) (h1 : 1 ≤ st) (h2 : st ≤ 65535) (hk : k ≤ 6) (ha : okA a = true) : an (rp id st k a) = a ∧ (rp id st k a).nd = k ∧ (rp id st k a).cl = id ∧ (rp id st k a).st = st ∧ (rp id st k a).mc = rymk (rp id st k a) ∧ foB (rp id st k a) = true := by
  have q1 := rp_fo hi h1 h2 hk ha
  rw [(rp_eq hi h1 h2 hk ha).1]
  generalize hm : rymk (r0 (k : Int) (id : Int) (st : Int) a.1 a.2.1 a.2.2.1 a.2.2.2) = m
  refine ⟨rfl, rfl, rfl, rfl, ?_, ?_⟩
  · rw [rymk_mc _ _ _ _ _ _ _ m ⟨#[]⟩]; exact hm.symm
  · rw [foB_mc _ _ _ _ _ _ _ m ⟨#[]⟩]; exact q1
theorem f4 : fCode 4 = 0 ∧ (fOut 4).toNat = 1 := by decide
theorem rp_ok {id st k : Nat} {a : An} (hi : id ≤ 255) (h1 : 1 ≤ st) (h2 : st ≤ 65535) (hk : k ≤ 3) (ha : okA a = true) : lokB 4 (rp id st k a) = true ∧ rokB 4 (rp id st k a) = true := by
  obtain ⟨_, q2, _, _, q5, q6⟩ := rp_an (k := k) hi h1 h2 (by omega) ha
  have h : lokB 4 (rp id st k a) = true := by
    unfold lokB
    rw [q6, q2, decide_eq_true (by omega : (k : Int) < 4), ← q5]
    simp
  refine ⟨h, ?_⟩
  unfold rokB
  rw [h, decide_eq_true f4.1]
  rfl
theorem rp_g {id st k : Nat} {a : An} (hi : id ≤ 255) (h1 : 1 ≤ st) (h2 : st ≤ 65535) (hk : k ≤ 3) (ha : okA a = true) : gB 4 (id : Int) (st : Int) (rp id st k a) = true := by
  obtain ⟨_, _, q3, q4, _, _⟩ := rp_an (k := k) hi h1 h2 (by omega) ha
  unfold gB
  rw [(rp_ok hi h1 h2 hk ha).1, q3, q4]
  simp
/-- Two replies that lie, one that does not: nothing is decided; two that do not: theirs. -/
theorem count {g : Re → Bool} {x0 x1 x2 x3 : Re} {T U : An} (hTU : ¬ U = T) (g0 : g x0 = true) (g1 : g x1 = true) (g2 : g x2 = true) (g3 : g x3 = true) (a0 : an x0 = U) (a1 : an x1 = U) (a2 : an x2 = T) (a3 : an x3 = T) (n0 : x0.nd = 3) (n1 : x1.nd = 3) (n2 : x2.nd = 1) (n3 : x3.nd = 2) :
    cs 1 g [] 0 = none ∧ cs 1 g [x0] 1 = none ∧ cs 1 g [x0, x1] 2 = none ∧ cs 1 g [x0, x1, x2] 3 = none ∧ cs 1 g [x0, x1, x2, x3] 4 = some T := by
  have e1 : (U == T) = false := by simpa using hTU

  refine ⟨rfl, ?_, ?_, ?_, ?_⟩ <;>
    simp [cs, nds, g0, g1, g2, g3, a0, a1, a2, a3, n0, n1, n2, n3, e1]
/-- Who replies, and what. -/
def nod : Nat → Nat
  | 0 => 3
  | 1 => 3
  | 2 => 1
  | _ => 2
def sai (T U : An) : Nat → An
  | 0 => U
  | 1 => U
  | _ => T
def rl (id st : Nat) (T U : An) : Nat → List Re
  | 0 => []
  | j + 1 => rl id st T U j ++ [rp id st (nod j) (sai T U j)]
theorem nod_le (j : Nat) : nod j ≤ 3 := by
  unfold nod; split <;> decide
theorem sai_ok {T U : An} (hT : okA T = true) (hU : okA U = true) (j : Nat) : okA (sai T U j) = true := by
  unfold sai; split <;> assumption
theorem rl_len (id st : Nat) (T U : An) : ∀ j, (rl id st T U j).length = j
  | 0 => rfl
  | j + 1 => by show (_ ++ _ : List Re).length = _; rw [List.length_append, rl_len id st T U j]; rfl
theorem rl_all {id st : Nat} {T U : An} {f : Re → Bool} (h : ∀ j, f (rp id st (nod j) (sai T U j)) = true) : ∀ j, (rl id st T U j).all f = true
  | 0 => rfl
  | j + 1 => by show (_ ++ _ : List Re).all f = true; rw [List.all_append, rl_all h j]; simp [h j]
theorem counts {id st : Nat} {T U : An} (hi : id ≤ 255) (h1 : 1 ≤ st) (h2 : st ≤ 65535) (hT : okA T = true) (hU : okA U = true) (hne : ¬ U = T) :
    (∀ j, j ≤ 3 → ccR 4 (id : Int) (st : Int) (rl id st T U j) = none) ∧ ccR 4 (id : Int) (st : Int) (rl id st T U 4) = some T := by
  have p0 := rp_an (k := 3) hi h1 h2 (by decide) hU
  have p2 := rp_an (k := 1) hi h1 h2 (by decide) hT
  have p3 := rp_an (k := 2) hi h1 h2 (by decide) hT
  obtain ⟨c0, c1, c2, c3, c4⟩ := count (g := gB 4 (id : Int) (st : Int)) hne (rp_g (k := 3) hi h1 h2 (by decide) hU) (rp_g (k := 3) hi h1 h2 (by decide) hU) (rp_g (k := 1) hi h1 h2 (by decide) hT) (rp_g (k := 2) hi h1 h2 (by decide) hT) p0.1 p0.1 p2.1 p3.1 (by rw [p0.2.1]; rfl) (by rw [p0.2.1]; rfl) (by rw [p2.2.1]; rfl) (by rw [p3.2.1]; rfl)
  refine ⟨fun j hj => ?_, ?_⟩
  · unfold ccR
    rw [f4.2, rl_len]
    match j, hj with
    | 0, _ => exact c0
    | 1, _ => exact c1
    | 2, _ => exact c2
    | 3, _ => exact c3
  · unfold ccR
    rw [f4.2, rl_len]
    exact c4
/-- The client behind j replies. -/
def wst (id i : Nat) (k l : Int) (nm : ByteArray) (ac : List An) (L : List Re) : Cd := ⟨id, ((i + 1 : Nat) : Int), true, id, ((i + 1 : Nat) : Int), k, l, nm, L, ac⟩
def rst (id i : Nat) (ac : List An) : Cd := ⟨id, (i : Int), false, 0, 0, 0, 0, ⟨#[]⟩, [], ac⟩
def cst (id i : Nat) (k l : Int) (nm : ByteArray) (ac : List An) (T U : An) (j : Nat) : Cd := if j < 4 then wst id i k l nm ac (rl id (i + 1) T U j) else rst id (i + 1) (ac ++ [T])
structure Ok (id i : Nat) (k l : Int) (nm : ByteArray) (ac : List An) (T U : An) : Prop where
  id_ : id ≤ 255
  i_ : i ≤ 2
  ac_ : ac.length = i ∧ ac.all okA = true
  T_ : okA T = true
  U_ : okA U = true
  ne_ : ¬ U = T
  rq_ : inB (id : Int) 0 255 = true ∧ leB k l = true ∧ opB nm = true
theorem inI {x a b : Int} (h1 : a ≤ x) (h2 : x ≤ b) : inR x a b = true := by unfold inR; simp; omega
theorem rst_ok {id i : Nat} {ac : List An} (hi : id ≤ 255) (h1 : i ≤ 65535) (hl : ac.length = i) (ha : ac.all okA = true) : okB 4 (rst id i ac) = true := by
  have e : ac.all Cl.okA = true := ha
  have q : acB (rst id i ac) 0 = true := by
    unfold acB rst
    rw [e, decide_eq_true (by simp [hl])]
    rfl
  unfold okB rgB
  rw [decide_eq_true f4.1, inI (by simp [rst]) (by simp [rst]; omega), inI (by simp [rst]) (by simp [rst]; omega)]
  show (true && (true && (true && restB (rst id i ac)))) = true
  unfold restB
  rw [q]
  unfold zrB rst
  simp
theorem wst_ok {id i j : Nat} {k l : Int} {nm : ByteArray} {ac : List An} {T U : An} (h : Ok id i k l nm ac T U) (hj : j ≤ 3) : okB 4 (wst id i k l nm ac (rl id (i + 1) T U j)) = true := by
  have e : ac.all Cl.okA = true := h.ac_.2
  have hi := h.i_
  have q : acB (wst id i k l nm ac (rl id (i + 1) T U j)) 1 = true := by
    unfold acB wst
    rw [e, decide_eq_true (by simp [h.ac_.1])]
    rfl
  have hr : reqB (id : Int) ((i + 1 : Nat) : Int) k l nm = true := by
    unfold reqB
    rw [h.rq_.1, h.rq_.2.1, h.rq_.2.2]
    have : inB ((i + 1 : Nat) : Int) 1 65535 = true := by unfold inB; simp; omega
    rw [this]
    rfl
  have hd : dcB 4 (wst id i k l nm ac (rl id (i + 1) T U j)) = false := by
    have hc := (counts (id := id) (st := i + 1) h.id_ (by omega) (by omega) h.T_ h.U_ h.ne_).1 j hj
    unfold dcB
    have hl := rl_len id (i + 1) T U j
    have : ccC 4 (id : Int) ((i + 1 : Nat) : Int) (rl id (i + 1) T U j) = 19 := by
      unfold ccC
      rw [hl, if_neg (by omega), if_pos f4.1, if_neg (by omega), hc]
      rfl
    show decide (ccC 4 (id : Int) ((i + 1 : Nat) : Int) (rl id (i + 1) T U j) = 0) = false
    rw [this]
    rfl
  have hall : (rl id (i + 1) T U j).all (fun x => rokB 4 x && asB (wst id i k l nm ac (rl id (i + 1) T U j)) x) = true := rl_all (fun m => by
    obtain ⟨_, _, q3, q4, _, _⟩ := rp_an (id := id) (st := i + 1) (k := nod m) h.id_ (by omega) (by omega) (by have := nod_le m; omega) (sai_ok h.T_ h.U_ m)
    rw [(rp_ok (id := id) (st := i + 1) (k := nod m) h.id_ (by omega) (by omega) (nod_le m) (sai_ok h.T_ h.U_ m)).2]
    unfold asB wst
    rw [q3, q4]
    simp) j
  have hre : reB 4 (wst id i k l nm ac (rl id (i + 1) T U j)) = true := by
    unfold reB
    rw [hd]
    show ((rl id (i + 1) T U j).all _ && !false) = true
    rw [hall]
    rfl
  have hid := h.id_
  unfold okB rgB
  rw [decide_eq_true f4.1, inI (by simp [wst]) (by simp [wst]; omega), inI (by simp [wst]; omega) (by simp [wst]; omega)]
  show (true && (true && (true && waitB 4 (wst id i k l nm ac (rl id (i + 1) T U j))))) = true
  unfold waitB
  rw [q, hre]
  have hl := rl_len id (i + 1) T U j
  show (true && (reqB (id : Int) ((i + 1 : Nat) : Int) k l nm && (decide ((id : Int) = id) && (decide (((i + 1 : Nat) : Int) = ((i + 1 : Nat) : Int)) && (decide ((rl id (i + 1) T U j).length ≤ 40) && true))))) = true
  rw [hr, hl, decide_eq_true (by omega : j ≤ 40)]
  simp
theorem cst_ok {id i j : Nat} {k l : Int} {nm : ByteArray} {ac : List An} {T U : An} (h : Ok id i k l nm ac T U) (hj : j ≤ 4) : okB 4 (cst id i k l nm ac T U j) = true := by
  unfold cst
  split
  · exact wst_ok h (by omega)
  · refine rst_ok h.id_ (by have := h.i_; omega) (by rw [List.length_append, h.ac_.1]; rfl) ?_
    rw [List.all_append, h.ac_.2]
    simp [h.T_]
theorem cst_bu (id i : Nat) (k l : Int) (nm : ByteArray) (ac : List An) (T U : An) (j : Nat) : (cst id i k l nm ac T U j).bu = decide (j < 4) ∧ (cst id i k l nm ac T U j).id = id ∧ (cst id i k l nm ac T U j).st = ((i + 1 : Nat) : Int) := by
  unfold cst
  split
  · rename_i h; rw [decide_eq_true h]; exact ⟨rfl, rfl, rfl⟩
  · rename_i h; rw [decide_eq_false h]; exact ⟨rfl, rfl, rfl⟩
/-- The reply at j is taken. -/
theorem cst_take {id i j : Nat} {k l : Int} {nm : ByteArray} {ac : List An} {T U : An} (h : Ok id i k l nm ac T U) (hj : j < 4) :
    tkR 4 (cst id i k l nm ac T U j) (rp id (i + 1) (nod j) (sai T U j)) = cst id i k l nm ac T U (j + 1) ∧ tkC 4 (cst id i k l nm ac T U j) (rp id (i + 1) (nod j) (sai T U j)) = 0 := by
  have hi := h.i_
  have h0 := cst_ok h (Nat.le_of_lt hj)
  have h1 := (rp_ok (id := id) (st := i + 1) (k := nod j) h.id_ (by omega) (by omega) (nod_le j) (sai_ok h.T_ h.U_ j)).2
  obtain ⟨_, _, q3, q4, _, _⟩ := rp_an (id := id) (st := i + 1) (k := nod j) h.id_ (by omega) (by omega) (by have := nod_le j; omega) (sai_ok h.T_ h.U_ j)
  have h2 : (cst id i k l nm ac T U j).bu = true := by rw [(cst_bu id i k l nm ac T U j).1, decide_eq_true hj]
  obtain ⟨t1, t2⟩ := tk_wait h0 h1 h2
  rw [t1, t2]
  have ha : asB (cst id i k l nm ac T U j) (rp id (i + 1) (nod j) (sai T U j)) = true := by
    unfold asB
    rw [q3, q4, (cst_bu id i k l nm ac T U j).2.1, (cst_bu id i k l nm ac T U j).2.2]
    simp
  have e0 : cst id i k l nm ac T U j = wst id i k l nm ac (rl id (i + 1) T U j) := if_pos hj
  have hl := rl_len id (i + 1) T U j
  have h40 : ¬ 40 ≤ (cst id i k l nm ac T U j).re.length := by rw [e0]; show ¬ 40 ≤ (rl id (i + 1) T U j).length; rw [hl]; omega
  unfold hdR hdC
  rw [if_pos ha, if_pos ha, if_neg h40, if_neg h40]
  refine ⟨?_, rfl⟩
  rw [e0]
  have ea : addR (wst id i k l nm ac (rl id (i + 1) T U j)) (rp id (i + 1) (nod j) (sai T U j)) = wst id i k l nm ac (rl id (i + 1) T U (j + 1)) := rfl
  rw [ea]
  have hc := counts (id := id) (st := i + 1) h.id_ (by omega) (by omega) h.T_ h.U_ h.ne_
  have hl2 := rl_len id (i + 1) T U (j + 1)
  by_cases h3 : j = 3
  · subst h3
    have hcc : ccC 4 (id : Int) ((i + 1 : Nat) : Int) (rl id (i + 1) T U 4) = 0 := by
      unfold ccC
      rw [rl_len, if_neg (by omega), if_pos f4.1, if_neg (by omega), hc.2]
      rfl
    have hca : ccA 4 (id : Int) ((i + 1 : Nat) : Int) (rl id (i + 1) T U 4) = T := by
      unfold ccA
      rw [rl_len, if_neg (by omega), if_pos f4.1, if_neg (by omega), hc.2]
      rfl
    have hd : dcB 4 (wst id i k l nm ac (rl id (i + 1) T U (3 + 1))) = true := decide_eq_true hcc
    rw [if_pos hd]
    show fin _ (ccA 4 (id : Int) ((i + 1 : Nat) : Int) (rl id (i + 1) T U 4)) = _
    rw [hca]
    rfl
  · have hcc : ccC 4 (id : Int) ((i + 1 : Nat) : Int) (rl id (i + 1) T U (j + 1)) = 19 := by
      unfold ccC
      rw [rl_len, if_neg (by omega), if_pos f4.1, if_neg (by omega), hc.1 (j + 1) (by omega)]
      rfl
    have hd : dcB 4 (wst id i k l nm ac (rl id (i + 1) T U (j + 1))) = false := by
      show decide (ccC 4 (id : Int) ((i + 1 : Nat) : Int) (rl id (i + 1) T U (j + 1)) = 0) = false
      rw [hcc]
      rfl
    rw [if_neg (by rw [hd]; decide)]
    exact (if_pos (by omega)).symm
theorem rp_mac (id st k : Nat) (a : An) : (rp id st k a).mc.size ≤ 8 := by
  unfold rp mkR
  split
  · show (rymk _).size ≤ 8
    unfold rymk Mr.mac
    rw [ByteArray.size_extract]
    omega
  · show (⟨#[]⟩ : ByteArray).size ≤ 8
    decide
theorem rl_mac (id st : Nat) (T U : An) : ∀ j, ∀ x ∈ rl id st T U j, x.mc.size ≤ 8
  | 0, x, h => by cases h
  | j + 1, x, h => by
    rcases List.mem_append.1 (show x ∈ rl id st T U j ++ [rp id st (nod j) (sai T U j)] from h) with h | h
    · exact rl_mac id st T U j x h
    · rw [List.mem_singleton.1 h]; exact rp_mac _ _ _ _
theorem op_len {nm : ByteArray} (h : opB nm = true) : nm.size ≤ 12 := by
  unfold opB at h
  simp at h
  exact h.1
theorem rst_tc {id i : Nat} {ac : List An} (hl : ac.length ≤ 4) : Tc 1048576 (rst id i ac) := ⟨by show (⟨#[]⟩ : ByteArray).size ≤ _; decide, by show (0 : Nat) ≤ _; decide, by show ac.length ≤ _; omega, fun x hx => by cases hx⟩
theorem cst_tc {id i j : Nat} {k l : Int} {nm : ByteArray} {ac : List An} {T U : An} (h : Ok id i k l nm ac T U) (hj : j ≤ 4) : Tc 1048576 (cst id i k l nm ac T U j) := by
  have hi := h.i_
  have hn := op_len h.rq_.2.2
  unfold cst
  split
  · refine ⟨by show nm.size ≤ _; omega, ?_, ?_, fun x hx => ?_⟩
    · show (rl id (i + 1) T U j).length ≤ _; rw [rl_len]; omega
    · show ac.length ≤ _; rw [h.ac_.1]; omega
    · have := rl_mac id (i + 1) T U j x hx
      show x.mc.size ≤ _
      omega
  · exact rst_tc (by rw [List.length_append, h.ac_.1]; simp; omega)
/-- A call of one that rests; of one that waits. -/
theorem cal_new {id i : Nat} {k l : Int} {nm : ByteArray} {ac : List An} {T U : An} (h : Ok id i k l nm ac T U) : caR 4 (rst id i ac) k l nm = cst id i k l nm ac T U 0 ∧ caC 4 (rst id i ac) k l nm = 0 := by
  have hn := op_len h.rq_.2.2
  have hi := h.i_
  have ho := rst_ok h.id_ (by omega) h.ac_.1 h.ac_.2
  have hr : reqB (rst id i ac).id ((rst id i ac).st + 1) k l nm = true := by
    show reqB (id : Int) ((i : Int) + 1) k l nm = true
    unfold reqB
    rw [h.rq_.1, h.rq_.2.1, h.rq_.2.2]
    have : inB ((i : Int) + 1) 1 65535 = true := by unfold inB; simp; omega
    rw [this]
    rfl
  have h4 : ¬ (rst id i ac).st = 4000 := by show ¬ (i : Int) = 4000; omega
  have hb : ¬ (rst id i ac).bu = true := by show ¬ false = true; decide
  obtain ⟨ha, hb⟩ := ca_go (n := 4) (by omega : ¬ 65536 < nm.size) ho hb h4 hr
  exact ⟨ha.trans rfl, hb⟩
theorem cal_again {id i : Nat} {k l : Int} {nm : ByteArray} {ac : List An} {T U : An} (h : Ok id i k l nm ac T U) : caC 4 (cst id i k l nm ac T U 0) k l nm = 15 := by
  have hn := op_len h.rq_.2.2
  exact (ca_wait (by omega) (cst_ok h (by decide)) (by rw [(cst_bu id i k l nm ac T U 0).1]; rfl)).2
end Go.Proofs.YtiflfcpoajijaaaDoor.Rl13

/- A client in a box, while it calls and hears. -/
namespace Go.Proofs.YtiflfcpoajijaaaDoor.Rl13
open Go.RowKit Go.Proofs.YtiflfcpoajijaaaDoor.Sl Go.Proofs.YtiflfcpoajijaaaDoor.Ry Go.Proofs.YtiflfcpoajijaaaDoor.Rk Go.Proofs.YtiflfcpoajijaaaDoor.Cl
open Go.Proofs.YtiflfcpoajijaaaDoor.Gy (Re)
open Go.Proofs.YtiflfcpoajijaaaDoor.Rm (inR inR_nat)
open Go.Proofs.YtiflfcpoajijaaaDoor.Rq (reqB inB leB opB)
open Go.Proofs.YtiflfcpoajijaaaDoor.Rr11 (OwnR)
open Go.Proofs.YtiflfcpoajijaaaDoor.Ox (OwnX)
/-- The client c lies in the block b; its lists behind that. -/
structure Cw (w W : World) (b : Nat) (c : Cd) (vr va : Value) : Prop where
  bx : W.heap[b]? = some (.cells #[.int .i64 c.id, .int .i64 c.st, .bool c.bu, .int .i64 c.rc, .int .i64 c.rs, .int .i64 c.rk, .int .i64 c.rl, .string c.rn, vr, va] 28 (0, 0))
  mi : Mine W (b + 1) c vr va
  be : Below w.heap.size w W
  ge : w.heap.size ≤ b
theorem Cw.lt {w W : World} {b : Nat} {c : Cd} {vr va : Value} (h : Cw w W b c vr va) : b < W.heap.size := (Array.getElem?_eq_some_iff.1 h.bx).1
theorem Cw.below {w W W' : World} {b : Nat} {c : Cd} {vr va : Value} (h : Cw w W b c vr va) (hb : Below W.heap.size W W') : Cw w W' b c vr va := ⟨(hb.block _ h.lt).trans h.bx, h.mi.below hb, h.be.trans (hb.mono h.be.size), h.ge⟩
theorem Cw.new (w : World) (c : Cd) (vr va : Value) (w1 : World) (hb : Below w.heap.size w w1) (hm : Mine w1 (w1.heap.size + 1) c vr va) : Cw w (w1.alloc (.cells #[.int .i64 c.id, .int .i64 c.st, .bool c.bu, .int .i64 c.rc, .int .i64 c.rs, .int .i64 c.rk, .int .i64 c.rl, .string c.rn, vr, va] 28)) w1.heap.size c vr va :=
  ⟨heap_alloc_new w1 _, hm.below (Rg.bel_new _ _), hb.trans ((Rg.bel_new _ _).mono hb.size), hb.size⟩
theorem Cw.store {w W : World} {b : Nat} {c d : Cd} {vr va ur ua : Value} (h : Cw w W b c vr va) (hm : Mine W (b + 1) d ur ua) : Cw w ((((((((((W.setCell ⟨b, 0, none⟩ (.int .i64 d.id)).setCell ⟨b, 1, none⟩ (.int .i64 d.st)).setCell ⟨b, 2, none⟩ (.bool d.bu)).setCell ⟨b, 3, none⟩ (.int .i64 d.rc)).setCell ⟨b, 4, none⟩ (.int .i64 d.rs)).setCell ⟨b, 5, none⟩ (.int .i64 d.rk)).setCell ⟨b, 6, none⟩ (.int .i64 d.rl)).setCell ⟨b, 7, none⟩ (.string d.rn)).setCell ⟨b, 8, none⟩ (ur)).setCell ⟨b, 9, none⟩ (ua)) b d ur ua := by
  obtain ⟨AF, HB, GF⟩ := set10 (.int .i64 c.id) (.int .i64 c.st) (.bool c.bu) (.int .i64 c.rc) (.int .i64 c.rs) (.int .i64 c.rk) (.int .i64 c.rl) (.string c.rn) (vr) (va) (.int .i64 d.id) (.int .i64 d.st) (.bool d.bu) (.int .i64 d.rc) (.int .i64 d.rs) (.int .i64 d.rk) (.int .i64 d.rl) (.string d.rn) (ur) (ua) h.bx
  exact ⟨AF, hm.kept (fun g hg _ => HB g (by omega)), GF h.be h.ge, h.ge⟩
end Go.Proofs.YtiflfcpoajijaaaDoor.Rl13
