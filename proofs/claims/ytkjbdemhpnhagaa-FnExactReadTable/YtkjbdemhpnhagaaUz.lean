/- spec.ReadTable: what it answers. -/
import Derived.Test.YtkjbdemhpnhagaaUy
namespace Go.Proofs.Ytkjbdemhpnhagaa.Us
open Go.RowKit Go.Proofs.Ytkjbdemhpnhagaa.Sl Go.Proofs.Ytkjbdemhpnhagaa.By Go.Proofs.Ytkjbdemhpnhagaa.Ap Go.Proofs.Ytkjbdemhpnhagaa.Rr Go.Proofs.Ytkjbdemhpnhagaa.Of Go.Proofs.Ytkjbdemhpnhagaa.Tb Go.Proofs.Ytkjbdemhpnhagaa.Tw
open Go.Proofs.Ytkjbdemhpnhagaa.Ur (Mem rtOK rtC rtT zTab rt_long rt_bad rt_ok tbO size_new)
open Go.Proofs.Ytkjbdemhpnhagaa.Wa (OwnW OwnS)
open Go.Proofs.Ytkjbdemhpnhagaa.Lo (LkA uV OwnL)

theorem bys_str (xs : List Int) (h : ∀ x ∈ xs, 0 ≤ x ∧ x ≤ 255) : bys (strOfNums xs) = xs := by
  unfold bys
  rw [strOfNums_data, List.map_map]
  apply List.ext_getElem?
  intro i
  rw [List.getElem?_map]
  cases hx : xs[i]? with
  | none => rfl
  | some x =>
    have := h x (List.mem_of_getElem? hx)
    simp only [Option.map_some, Function.comp_apply]
    congr 1
    rw [UInt8.toNat_ofNat_of_lt' (by unfold UInt8.size; omega)]
    omega
/-- What ReadTable answers. -/
def RtP (xs : List Int) (w : World) (e : Ending) (w' : World) : Prop := ∃ u2 u3 ms, e = .returned (.tuple #[tabV (rtT xs).tm (rtT xs).nx u2 u3, .int .i64 (rtC xs)]) ∧ (ms.map (·.1) = (rtT xs).ls ∧ Mem w' w.heap.size u2 u3 ms (rtT xs).ss) ∧ Below w.heap.size w w'
structure Jz (w W : World) (x : Nat) (tm nx : Int) (vl vs : Value) (ms : List LkA) (ss : List Sn) : Prop where
  a : W.heap[w.heap.size]? = some (.cells #[.int .i64 0, .int .i64 0, .slice none 0 0, .slice none 0 0] 31 (0, 0))
  x : W.heap[x]? = some (.cells #[.int .i64 tm, .int .i64 nx, vl, vs] 31 (0, 0))
  g : Below w.heap.size w W
  m : Mem W (w.heap.size + 1) vl vs ms ss
set_option maxRecDepth 100000 in
set_option maxHeartbeats 1600000 in
theorem specReadTable_any (v : Value) (xs : List Int) (w : World) (h : RowB w v xs) :
    Calls Try.prog 24 #[v] w fun e w' => RtP xs w e w' := by
  have hr : ∀ x ∈ xs, 0 ≤ x ∧ x ≤ 255 := by obtain ⟨_, _, _, _, h⟩ := h; exact h
  have hu := RowU.of h
  obtain ⟨a, cap, rfl, _⟩ := h
  by_cases hb : 65536 < xs.length
  · have hb' : (65536 : Int) < (xs.length : Int) := by omega
    have HN : Hid (rtC xs = 2 ∧ rtT xs = zTab) := rt_long hb
    clear hu hr
    go_enter Try.func24, Try.ntmps24
    go_wp2_with fail
    exact bodyPost_ret (v := .tuple #[.agg #[.int .i64 0, .int .i64 0, .slice none 0 0, .slice none 0 0], .int .i64 2]) (by simp [results, Try.results24, go_sem]) rfl ⟨.slice none 0 0, .slice none 0 0, [], by rw [HN.out.1, HN.out.2]; rfl, ⟨by rw [HN.out.2]; rfl, by rw [HN.out.2]; exact Mem.nil _ _⟩, (Below.refl _ _).alloc (Nat.le_refl _) _⟩
  have hb' : ¬ (65536 : Int) < (xs.length : Int) := by omega
  have hcv := run_convert_row (P := Try.prog) (w.alloc (.cells #[.int .i64 0, .int .i64 0, .slice none 0 0, .slice none 0 0] 31)) w.heap.size 44 5 9 Try.underlying44 Try.underlying5 Try.underlying9 _ xs (hu.kept (fun k hk => Below.heap_alloc w _ k hk))
  have HL6 := l05Read_any (strOfNums xs) (w.alloc (.cells #[.int .i64 0, .int .i64 0, .slice none 0 0, .slice none 0 0] 31)) (by rw [strOfNums_size]; omega)
  rw [bys_str xs hr] at HL6
  have HBD : Hid (rtOK xs = false → rtC xs = 3 ∧ rtT xs = zTab) := rt_bad hb
  have HGD : Hid (rtOK xs = true → rtC xs = 0 ∧ rtT xs = tbO xs) := rt_ok hb
  have HL7 : Hid (Calls Try.prog 54 #[.string (strOfNums xs)] (w.alloc (.cells #[.int .i64 0, .int .i64 0, .slice none 0 0, .slice none 0 0] 31)) fun e w' => ∃ tm nx u2 u3 ms ss, e = .returned (.tuple #[tabV tm nx u2 u3, .bool (rtOK xs)]) ∧ (Mem w' (w.alloc (.cells #[.int .i64 0, .int .i64 0, .slice none 0 0, .slice none 0 0] 31)).heap.size u2 u3 ms ss ∧ (rtOK xs = true → tbO xs = ⟨tm, nx, ms.map (·.1), ss⟩)) ∧ Below (w.alloc (.cells #[.int .i64 0, .int .i64 0, .slice none 0 0, .slice none 0 0] 31)).heap.size (w.alloc (.cells #[.int .i64 0, .int .i64 0, .slice none 0 0, .slice none 0 0] 31)) w') := HL6
  clear hu hr hb HL6
  generalize strOfNums xs = s at hcv HL7
  go_enter Try.func24, Try.ntmps24
  go_wp2_with fail
  refine HL7.out.mono ?_
  rintro e w4 ⟨tm, nx, u2, u3, ms, ss, rfl, ⟨hm, ht⟩, b4⟩
  rw [size_new] at hm b4
  obtain ⟨la, lc, rfl⟩ := hm.ol.slice
  obtain ⟨sa, sc, rfl⟩ := hm.os.slice
  have HTT : Hid (rtOK xs = true → tbO xs = ⟨tm, nx, ms.map (·.1), ss⟩) := ht
  have hs4 : w.heap.size + 1 ≤ w4.heap.size := by have := b4.size; rw [size_new] at this; exact this
  have J0 : Hid (Jz w (w4.alloc (.cells #[.int .i64 tm, .int .i64 nx, .slice la ms.length lc, .slice sa ss.length sc] 31)) w4.heap.size tm nx (.slice la ms.length lc) (.slice sa ss.length sc) ms ss) :=
    ⟨(Below.heap_alloc _ _ _ (by omega)).trans ((b4.block _ (by omega)).trans (heap_alloc_new w _)), heap_alloc_new _ _, (((Below.refl _ _).alloc (Nat.le_refl _) _).trans (b4.mono (by omega))).alloc (by omega) _, hm.below (by exact (Below.refl _ _).alloc (Nat.le_refl _) _)⟩
  clear HL7 hm ht b4 hcv
  unfold tabV
  go_upto_region 4 with fail
  generalize (w4.alloc (.cells #[.int .i64 tm, .int .i64 nx, .slice la ms.length lc, .slice sa ss.length sc] 31)) = w5 at J0 ⊢
  generalize w4.heap.size = x5 at J0 hs4 ⊢
  obtain ⟨ln, HLN⟩ : ∃ ln, Hid (ms.length = ln) := ⟨_, rfl⟩
  obtain ⟨sn, HSN⟩ : ∃ sn, Hid (ss.length = sn) := ⟨_, rfl⟩
  rw [HLN.out, HSN.out] at J0 ⊢
  obtain ⟨ok, HOK⟩ : ∃ ok, Hid (rtOK xs = ok) := ⟨_, rfl⟩
  rw [HOK.out] at HBD HGD HTT ⊢
  have J := J0
  clear J0
  cases ok
  case false =>
    have HN : Hid (rtC xs = 3 ∧ rtT xs = zTab) := HBD.out rfl
    obtain ⟨zc0, zf0⟩ := blk_cell J.out.a 0 (x := .int .i64 0) rfl
    obtain ⟨zc1, zf1⟩ := blk_cell J.out.a 1 (x := .int .i64 0) rfl
    obtain ⟨zc2, zf2⟩ := blk_cell J.out.a 2 (x := .slice none 0 0) rfl
    obtain ⟨zc3, zf3⟩ := blk_cell J.out.a 3 (x := .slice none 0 0) rfl
    have AF : Hid (((((w5.setCell ⟨w.heap.size, 0, none⟩ (.int .i64 0)).setCell ⟨w.heap.size, 1, none⟩ (.int .i64 0)).setCell ⟨w.heap.size, 2, none⟩ (.slice none 0 0)).setCell ⟨w.heap.size, 3, none⟩ (.slice none 0 0)).heap[w.heap.size]? = some (.cells #[.int .i64 0, .int .i64 0, .slice none 0 0, .slice none 0 0] 31 (0, 0)) ∧ Below w.heap.size w ((((w5.setCell ⟨w.heap.size, 0, none⟩ (.int .i64 0)).setCell ⟨w.heap.size, 1, none⟩ (.int .i64 0)).setCell ⟨w.heap.size, 2, none⟩ (.slice none 0 0)).setCell ⟨w.heap.size, 3, none⟩ (.slice none 0 0)) ∧ Mem ((((w5.setCell ⟨w.heap.size, 0, none⟩ (.int .i64 0)).setCell ⟨w.heap.size, 1, none⟩ (.int .i64 0)).setCell ⟨w.heap.size, 2, none⟩ (.slice none 0 0)).setCell ⟨w.heap.size, 3, none⟩ (.slice none 0 0)) (w.heap.size + 1) (.slice la ln lc) (.slice sa sn sc) ms ss) :=
      ⟨blk_set (blk_set (blk_set (blk_set J.out.a 0 _) 1 _) 2 _) 3 _, Below.setCell (Below.setCell (Below.setCell (Below.setCell J.out.g (p := ⟨w.heap.size, 0, none⟩) (Nat.le_refl _) _) (p := ⟨w.heap.size, 1, none⟩) (Nat.le_refl _) _) (p := ⟨w.heap.size, 2, none⟩) (Nat.le_refl _) _) (p := ⟨w.heap.size, 3, none⟩) (Nat.le_refl _) _, J.out.m.kept fun g hg _ => (blk_far (by omega) 3 _).trans ((blk_far (by omega) 2 _).trans ((blk_far (by omega) 1 _).trans (blk_far (by omega) 0 _)))⟩
    clear J
    go_wp2_with fail
    generalize ((((w5.setCell ⟨w.heap.size, 0, none⟩ (.int .i64 0)).setCell ⟨w.heap.size, 1, none⟩ (.int .i64 0)).setCell ⟨w.heap.size, 2, none⟩ (.slice none 0 0)).setCell ⟨w.heap.size, 3, none⟩ (.slice none 0 0)) = wf at AF ⊢
    have d0 := (blk_cell AF.out.1 0 (x := .int .i64 0) rfl).1
    have d1 := (blk_cell AF.out.1 1 (x := .int .i64 0) rfl).1
    have d2 := (blk_cell AF.out.1 2 (x := .slice none 0 0) rfl).1
    have d3 := (blk_cell AF.out.1 3 (x := .slice none 0 0) rfl).1
    refine bodyPost_ret (v := .tuple #[.agg #[.int .i64 0, .int .i64 0, .slice none 0 0, .slice none 0 0], .int .i64 3]) (by simp [results, Try.results24, go_sem, d0, d1, d2, d3]) rfl ?_
    exact ⟨.slice none 0 0, .slice none 0 0, [], by rw [HN.out.1, HN.out.2]; rfl, ⟨by rw [HN.out.2]; rfl, by rw [HN.out.2]; exact Mem.nil _ _⟩, AF.out.2.1⟩
  case true =>
    have HN : Hid (rtC xs = 0 ∧ rtT xs = ⟨tm, nx, ms.map (·.1), ss⟩) := ⟨(HGD.out rfl).1, (HGD.out rfl).2.trans (HTT.out rfl)⟩
    have y0 := (blk_cell J.out.x 0 (x := .int .i64 tm) rfl).1
    obtain ⟨zc0, zf0⟩ := blk_cell J.out.a 0 (x := .int .i64 0) rfl
    have y1 := (blk_cell J.out.x 1 (x := .int .i64 nx) rfl).1
    obtain ⟨zc1, zf1⟩ := blk_cell J.out.a 1 (x := .int .i64 0) rfl
    have y2 := (blk_cell J.out.x 2 (x := .slice la ln lc) rfl).1
    obtain ⟨zc2, zf2⟩ := blk_cell J.out.a 2 (x := .slice none 0 0) rfl
    have y3 := (blk_cell J.out.x 3 (x := .slice sa sn sc) rfl).1
    obtain ⟨zc3, zf3⟩ := blk_cell J.out.a 3 (x := .slice none 0 0) rfl
    have AF : Hid (((((w5.setCell ⟨w.heap.size, 0, none⟩ (.int .i64 tm)).setCell ⟨w.heap.size, 1, none⟩ (.int .i64 nx)).setCell ⟨w.heap.size, 2, none⟩ (.slice la ln lc)).setCell ⟨w.heap.size, 3, none⟩ (.slice sa sn sc)).heap[w.heap.size]? = some (.cells #[.int .i64 tm, .int .i64 nx, .slice la ln lc, .slice sa sn sc] 31 (0, 0)) ∧ Below w.heap.size w ((((w5.setCell ⟨w.heap.size, 0, none⟩ (.int .i64 tm)).setCell ⟨w.heap.size, 1, none⟩ (.int .i64 nx)).setCell ⟨w.heap.size, 2, none⟩ (.slice la ln lc)).setCell ⟨w.heap.size, 3, none⟩ (.slice sa sn sc)) ∧ Mem ((((w5.setCell ⟨w.heap.size, 0, none⟩ (.int .i64 tm)).setCell ⟨w.heap.size, 1, none⟩ (.int .i64 nx)).setCell ⟨w.heap.size, 2, none⟩ (.slice la ln lc)).setCell ⟨w.heap.size, 3, none⟩ (.slice sa sn sc)) (w.heap.size + 1) (.slice la ln lc) (.slice sa sn sc) ms ss) :=
      ⟨blk_set (blk_set (blk_set (blk_set J.out.a 0 _) 1 _) 2 _) 3 _, Below.setCell (Below.setCell (Below.setCell (Below.setCell J.out.g (p := ⟨w.heap.size, 0, none⟩) (Nat.le_refl _) _) (p := ⟨w.heap.size, 1, none⟩) (Nat.le_refl _) _) (p := ⟨w.heap.size, 2, none⟩) (Nat.le_refl _) _) (p := ⟨w.heap.size, 3, none⟩) (Nat.le_refl _) _, J.out.m.kept fun g hg _ => (blk_far (by omega) 3 _).trans ((blk_far (by omega) 2 _).trans ((blk_far (by omega) 1 _).trans (blk_far (by omega) 0 _)))⟩
    clear J
    go_wp2_with fail
    generalize ((((w5.setCell ⟨w.heap.size, 0, none⟩ (.int .i64 tm)).setCell ⟨w.heap.size, 1, none⟩ (.int .i64 nx)).setCell ⟨w.heap.size, 2, none⟩ (.slice la ln lc)).setCell ⟨w.heap.size, 3, none⟩ (.slice sa sn sc)) = wf at AF ⊢
    have d0 := (blk_cell AF.out.1 0 (x := .int .i64 tm) rfl).1
    have d1 := (blk_cell AF.out.1 1 (x := .int .i64 nx) rfl).1
    have d2 := (blk_cell AF.out.1 2 (x := .slice la ln lc) rfl).1
    have d3 := (blk_cell AF.out.1 3 (x := .slice sa sn sc) rfl).1
    refine bodyPost_ret (v := .tuple #[.agg #[.int .i64 tm, .int .i64 nx, .slice la ln lc, .slice sa sn sc], .int .i64 0]) (by simp [results, Try.results24, go_sem, d0, d1, d2, d3]) rfl ?_
    exact ⟨_, _, ms, by rw [HN.out.1, HN.out.2]; rfl, ⟨by rw [HN.out.2], by rw [HN.out.2]; exact AF.out.2.2.mono (by omega)⟩, AF.out.2.1⟩
end Go.Proofs.Ytkjbdemhpnhagaa.Us
