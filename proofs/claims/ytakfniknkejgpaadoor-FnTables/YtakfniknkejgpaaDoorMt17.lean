/- Texts put together: Uz, Shelf, ShaP. -/
import Derived.Test.YtakfniknkejgpaaDoorMt16
import Derived.Shelf.Strings.OnBuilder
import Derived.Test.YtakfniknkejgpaaDoorProg
import Derived.Test.YtakfniknkejgpaaDoorMt2
import Derived.Laws.CopyOwn
import Derived.Laws.MakeOwn
/- spec.ReadTable: what it answers. -/
namespace Go.Proofs.YtakfniknkejgpaaDoor.Us
open Go.RowKit Go.Proofs.YtakfniknkejgpaaDoor.Sl Go.Proofs.YtakfniknkejgpaaDoor.By Go.Proofs.YtakfniknkejgpaaDoor.Ap Go.Proofs.YtakfniknkejgpaaDoor.Rr Go.Proofs.YtakfniknkejgpaaDoor.Of Go.Proofs.YtakfniknkejgpaaDoor.Tb Go.Proofs.YtakfniknkejgpaaDoor.Tw
open Go.Proofs.YtakfniknkejgpaaDoor.Ur (Mem rtOK rtC rtT zTab rt_long rt_bad rt_ok tbO size_new)
open Go.Proofs.YtakfniknkejgpaaDoor.Wa (OwnW OwnS)
open Go.Proofs.YtakfniknkejgpaaDoor.Lo (LkA uV OwnL)

theorem bys_str (xs : List Int) (h : ∀ x ∈ xs, 0 ≤ x ∧ x ≤ 255) : bys (strOfNums xs) = xs := by
 unfold bys
 rw [strOfNums_data, List.map_map]
 apply List.ext_getElem?
 intro i
 rw [List.getElem?_map]
 cases hx : xs[i]? with
 | none => rfl
 | some x =>
   have := h x (List.mem_of_getElem? hx)
   simp only [Option.map_some, Function.comp_apply]
   congr 1
   rw [UInt8.toNat_ofNat_of_lt' (by unfold UInt8.size; omega)]
   omega
def RtP (xs : List Int) (w : World) (e : Ending) (w' : World) : Prop := ∃ u2 u3 ms, e = .returned (.tuple #[tabV (rtT xs).tm (rtT xs).nx u2 u3, .int .i64 (rtC xs)]) ∧ (ms.map (·.1) = (rtT xs).ls ∧ Mem w' w.heap.size u2 u3 ms (rtT xs).ss) ∧ Below w.heap.size w w'
structure Jz (w W : World) (x : Nat) (tm nx : Int) (vl vs : Value) (ms : List LkA) (ss : List Sn) : Prop where
 a : W.heap[w.heap.size]? = some (.cells #[.int .i64 0, .int .i64 0, .slice none 0 0, .slice none 0 0] 26 (0, 0))
 x : W.heap[x]? = some (.cells #[.int .i64 tm, .int .i64 nx, vl, vs] 26 (0, 0))
 g : Below w.heap.size w W
 m : Mem W (w.heap.size + 1) vl vs ms ss
set_option maxRecDepth 100000 in
set_option maxHeartbeats 1600000 in
theorem specReadTable_any (v : Value) (xs : List Int) (w : World) (h : RowB w v xs) :
 Calls Tryd.prog 12 #[v] w fun e w' => RtP xs w e w' := by
 have hr : ∀ x ∈ xs, 0 ≤ x ∧ x ≤ 255 := by obtain ⟨_, _, _, _, h⟩ := h; exact h
 have hu := RowU.of h
 obtain ⟨a, cap, rfl, _⟩ := h
 by_cases hb : 65536 < xs.length
 ·have hb' : (65536 : Int) < (xs.length : Int) := by omega
  have HN : Hid (rtC xs = 2 ∧ rtT xs = zTab) := rt_long hb
  clear hu hr
  go_enter Tryd.func12, Tryd.ntmps12
  go_wp2_with fail
  exact bodyPost_ret (v := .tuple #[.agg #[.int .i64 0, .int .i64 0, .slice none 0 0, .slice none 0 0], .int .i64 2]) (by simp [results, Tryd.results12, go_sem]) rfl ⟨.slice none 0 0, .slice none 0 0, [], by rw [HN.out.1, HN.out.2]; rfl, ⟨by rw [HN.out.2]; rfl, by rw [HN.out.2]; exact Mem.nil _ _⟩, (Below.refl _ _).alloc (Nat.le_refl _) _⟩
 have hb' : ¬ (65536 : Int) < (xs.length : Int) := by omega
 have hcv := run_convert_row (P := Tryd.prog) (w.alloc (.cells #[.int .i64 0, .int .i64 0, .slice none 0 0, .slice none 0 0] 26)) w.heap.size 22 5 9 Tryd.underlying22 Tryd.underlying5 Tryd.underlying9 _ xs (hu.kept (fun k hk => Below.heap_alloc w _ k hk))
 have HL6 := l05Read_any (strOfNums xs) (w.alloc (.cells #[.int .i64 0, .int .i64 0, .slice none 0 0, .slice none 0 0] 26)) (by rw [strOfNums_size]; omega)
 rw [bys_str xs hr] at HL6
 have HBD : Hid (rtOK xs = false → rtC xs = 3 ∧ rtT xs = zTab) := rt_bad hb
 have HGD : Hid (rtOK xs = true → rtC xs = 0 ∧ rtT xs = tbO xs) := rt_ok hb
 have HL7 : Hid (Calls Tryd.prog 35 #[.string (strOfNums xs)] (w.alloc (.cells #[.int .i64 0, .int .i64 0, .slice none 0 0, .slice none 0 0] 26)) fun e w' => ∃ tm nx u2 u3 ms ss, e = .returned (.tuple #[tabV tm nx u2 u3, .bool (rtOK xs)]) ∧ (Mem w' (w.alloc (.cells #[.int .i64 0, .int .i64 0, .slice none 0 0, .slice none 0 0] 26)).heap.size u2 u3 ms ss ∧ (rtOK xs = true → tbO xs = ⟨tm, nx, ms.map (·.1), ss⟩)) ∧ Below (w.alloc (.cells #[.int .i64 0, .int .i64 0, .slice none 0 0, .slice none 0 0] 26)).heap.size (w.alloc (.cells #[.int .i64 0, .int .i64 0, .slice none 0 0, .slice none 0 0] 26)) w') := HL6
 clear hu hr hb HL6
 generalize strOfNums xs = s at hcv HL7
 go_enter Tryd.func12, Tryd.ntmps12
 go_wp2_with fail
 refine HL7.out.mono ?_
 rintro e w4 ⟨tm, nx, u2, u3, ms, ss, rfl, ⟨hm, ht⟩, b4⟩
 rw [size_new] at hm b4
 obtain ⟨la, lc, rfl⟩ := hm.ol.slice
 obtain ⟨sa, sc, rfl⟩ := hm.os.slice
 have HTT : Hid (rtOK xs = true → tbO xs = ⟨tm, nx, ms.map (·.1), ss⟩) := ht
 have hs4 : w.heap.size + 1 ≤ w4.heap.size := by have := b4.size; rw [size_new] at this; exact this
 have J0 : Hid (Jz w (w4.alloc (.cells #[.int .i64 tm, .int .i64 nx, .slice la ms.length lc, .slice sa ss.length sc] 26)) w4.heap.size tm nx (.slice la ms.length lc) (.slice sa ss.length sc) ms ss) :=
  ⟨(Below.heap_alloc _ _ _ (by omega)).trans ((b4.block _ (by omega)).trans (heap_alloc_new w _)), heap_alloc_new _ _, (((Below.refl _ _).alloc (Nat.le_refl _) _).trans (b4.mono (by omega))).alloc (by omega) _, hm.below (by exact (Below.refl _ _).alloc (Nat.le_refl _) _)⟩
 clear HL7 hm ht b4 hcv
 unfold tabV
 go_upto_region 4 with fail
 generalize (w4.alloc (.cells #[.int .i64 tm, .int .i64 nx, .slice la ms.length lc, .slice sa ss.length sc] 26)) = w5 at J0 ⊢
 generalize w4.heap.size = x5 at J0 hs4 ⊢
 obtain ⟨ln, HLN⟩ : ∃ ln, Hid (ms.length = ln) := ⟨_, rfl⟩
 obtain ⟨sn, HSN⟩ : ∃ sn, Hid (ss.length = sn) := ⟨_, rfl⟩
 rw [HLN.out, HSN.out] at J0 ⊢
 obtain ⟨ok, HOK⟩ : ∃ ok, Hid (rtOK xs = ok) := ⟨_, rfl⟩
 rw [HOK.out] at HBD HGD HTT ⊢
 have J := J0
 clear J0
 cases ok
 case false =>
  have HN : Hid (rtC xs = 3 ∧ rtT xs = zTab) := HBD.out rfl
  obtain ⟨zc0, zf0⟩ := blk_cell J.out.a 0 (x := .int .i64 0) rfl
  obtain ⟨zc1, zf1⟩ := blk_cell J.out.a 1 (x := .int .i64 0) rfl
  obtain ⟨zc2, zf2⟩ := blk_cell J.out.a 2 (x := .slice none 0 0) rfl
  obtain ⟨zc3, zf3⟩ := blk_cell J.out.a 3 (x := .slice none 0 0) rfl
  have AF : Hid (((((w5.setCell ⟨w.heap.size, 0, none⟩ (.int .i64 0)).setCell ⟨w.heap.size, 1, none⟩ (.int .i64 0)).setCell ⟨w.heap.size, 2, none⟩ (.slice none 0 0)).setCell ⟨w.heap.size, 3, none⟩ (.slice none 0 0)).heap[w.heap.size]? = some (.cells #[.int .i64 0, .int .i64 0, .slice none 0 0, .slice none 0 0] 26 (0, 0)) ∧ Below w.heap.size w ((((w5.setCell ⟨w.heap.size, 0, none⟩ (.int .i64 0)).setCell ⟨w.heap.size, 1, none⟩ (.int .i64 0)).setCell ⟨w.heap.size, 2, none⟩ (.slice none 0 0)).setCell ⟨w.heap.size, 3, none⟩ (.slice none 0 0)) ∧ Mem ((((w5.setCell ⟨w.heap.size, 0, none⟩ (.int .i64 0)).setCell ⟨w.heap.size, 1, none⟩ (.int .i64 0)).setCell ⟨w.heap.size, 2, none⟩ (.slice none 0 0)).setCell ⟨w.heap.size, 3, none⟩ (.slice none 0 0)) (w.heap.size + 1) (.slice la ln lc) (.slice sa sn sc) ms ss) :=
   ⟨blk_set (blk_set (blk_set (blk_set J.out.a 0 _) 1 _) 2 _) 3 _, Below.setCell (Below.setCell (Below.setCell (Below.setCell J.out.g (p := ⟨w.heap.size, 0, none⟩) (Nat.le_refl _) _) (p := ⟨w.heap.size, 1, none⟩) (Nat.le_refl _) _) (p := ⟨w.heap.size, 2, none⟩) (Nat.le_refl _) _) (p := ⟨w.heap.size, 3, none⟩) (Nat.le_refl _) _, J.out.m.kept fun g hg _ => (blk_far (by omega) 3 _).trans ((blk_far (by omega) 2 _).trans ((blk_far (by omega) 1 _).trans (blk_far (by omega) 0 _)))⟩
  clear J
  go_wp2_with fail
  generalize ((((w5.setCell ⟨w.heap.size, 0, none⟩ (.int .i64 0)).setCell ⟨w.heap.size, 1, none⟩ (.int .i64 0)).setCell ⟨w.heap.size, 2, none⟩ (.slice none 0 0)).setCell ⟨w.heap.size, 3, none⟩ (.slice none 0 0)) = wf at AF ⊢
  have d0 := (blk_cell AF.out.1 0 (x := .int .i64 0) rfl).1
  have d1 := (blk_cell AF.out.1 1 (x := .int .i64 0) rfl).1
  have d2 := (blk_cell AF.out.1 2 (x := .slice none 0 0) rfl).1
  have d3 := (blk_cell AF.out.1 3 (x := .slice none 0 0) rfl).1
  refine bodyPost_ret (v := .tuple #[.agg #[.int .i64 0, .int .i64 0, .slice none 0 0, .slice none 0 0], .int .i64 3]) (by simp [results, Tryd.results12, go_sem, d0, d1, d2, d3]) rfl ?_
  exact ⟨.slice none 0 0, .slice none 0 0, [], by rw [HN.out.1, HN.out.2]; rfl, ⟨by rw [HN.out.2]; rfl, by rw [HN.out.2]; exact Mem.nil _ _⟩, AF.out.2.1⟩
 case true =>
  have HN : Hid (rtC xs = 0 ∧ rtT xs = ⟨tm, nx, ms.map (·.1), ss⟩) := ⟨(HGD.out rfl).1, (HGD.out rfl).2.trans (HTT.out rfl)⟩
  have y0 := (blk_cell J.out.x 0 (x := .int .i64 tm) rfl).1
  obtain ⟨zc0, zf0⟩ := blk_cell J.out.a 0 (x := .int .i64 0) rfl
  have y1 := (blk_cell J.out.x 1 (x := .int .i64 nx) rfl).1
  obtain ⟨zc1, zf1⟩ := blk_cell J.out.a 1 (x := .int .i64 0) rfl
  have y2 := (blk_cell J.out.x 2 (x := .slice la ln lc) rfl).1
  obtain ⟨zc2, zf2⟩ := blk_cell J.out.a 2 (x := .slice none 0 0) rfl
  have y3 := (blk_cell J.out.x 3 (x := .slice sa sn sc) rfl).1
  obtain ⟨zc3, zf3⟩ := blk_cell J.out.a 3 (x := .slice none 0 0) rfl
  have AF : Hid (((((w5.setCell ⟨w.heap.size, 0, none⟩ (.int .i64 tm)).setCell ⟨w.heap.size, 1, none⟩ (.int .i64 nx)).setCell ⟨w.heap.size, 2, none⟩ (.slice la ln lc)).setCell ⟨w.heap.size, 3, none⟩ (.slice sa sn sc)).heap[w.heap.size]? = some (.cells #[.int .i64 tm, .int .i64 nx, .slice la ln lc, .slice sa sn sc] 26 (0, 0)) ∧ Below w.heap.size w ((((w5.setCell ⟨w.heap.size, 0, none⟩ (.int .i64 tm)).setCell ⟨w.heap.size, 1, none⟩ (.int .i64 nx)).setCell ⟨w.heap.size, 2, none⟩ (.slice la ln lc)).setCell ⟨w.heap.size, 3, none⟩ (.slice sa sn sc)) ∧ Mem ((((w5.setCell ⟨w.heap.size, 0, none⟩ (.int .i64 tm)).setCell ⟨w.heap.size, 1, none⟩ (.int .i64 nx)).setCell ⟨w.heap.size, 2, none⟩ (.slice la ln lc)).setCell ⟨w.heap.size, 3, none⟩ (.slice sa sn sc)) (w.heap.size + 1) (.slice la ln lc) (.slice sa sn sc) ms ss) :=
   ⟨blk_set (blk_set (blk_set (blk_set J.out.a 0 _) 1 _) 2 _) 3 _, Below.setCell (Below.setCell (Below.setCell (Below.setCell J.out.g (p := ⟨w.heap.size, 0, none⟩) (Nat.le_refl _) _) (p := ⟨w.heap.size, 1, none⟩) (Nat.le_refl _) _) (p := ⟨w.heap.size, 2, none⟩) (Nat.le_refl _) _) (p := ⟨w.heap.size, 3, none⟩) (Nat.le_refl _) _, J.out.m.kept fun g hg _ => (blk_far (by omega) 3 _).trans ((blk_far (by omega) 2 _).trans ((blk_far (by omega) 1 _).trans (blk_far (by omega) 0 _)))⟩
  clear J
  go_wp2_with fail
  generalize ((((w5.setCell ⟨w.heap.size, 0, none⟩ (.int .i64 tm)).setCell ⟨w.heap.size, 1, none⟩ (.int .i64 nx)).setCell ⟨w.heap.size, 2, none⟩ (.slice la ln lc)).setCell ⟨w.heap.size, 3, none⟩ (.slice sa sn sc)) = wf at AF ⊢
  have d0 := (blk_cell AF.out.1 0 (x := .int .i64 tm) rfl).1
  have d1 := (blk_cell AF.out.1 1 (x := .int .i64 nx) rfl).1
  have d2 := (blk_cell AF.out.1 2 (x := .slice la ln lc) rfl).1
  have d3 := (blk_cell AF.out.1 3 (x := .slice sa sn sc) rfl).1
  refine bodyPost_ret (v := .tuple #[.agg #[.int .i64 tm, .int .i64 nx, .slice la ln lc, .slice sa sn sc], .int .i64 0]) (by simp [results, Tryd.results12, go_sem, d0, d1, d2, d3]) rfl ?_
  exact ⟨_, _, ms, by rw [HN.out.1, HN.out.2]; rfl, ⟨by rw [HN.out.2], by rw [HN.out.2]; exact AF.out.2.2.mono (by omega)⟩, AF.out.2.1⟩
end Go.Proofs.YtakfniknkejgpaaDoor.Us

/- strings.Join at this program: the library's contract, laid. -/
namespace Go.Proofs.YtakfniknkejgpaaDoor.Sf
open Go.Shelf Go.RowKit
def lays156_ren : Go.Shelf.Ren := ⟨fun | 156 => 39 | 165 => 68 | 166 => 69 | 169 => 70 | 240 => 95 | 241 => 96 | 276 => 109 | 277 => 110 | n => n, fun | 31 => 36 | 9 => 9 | 3 => 3 | 4 => 4 | 0 => 0 | 20 => 20 | 72 => 114 | 76 => 118 | 70 => 112 | 37 => 22 | 75 => 117 | 127 => 142 | 164 => 152 | 5 => 5 | 80 => 120 | n => n, fun | n => n⟩
theorem lays156 : Go.Proofs.Lays.n156 Tryd.prog lays156_ren := {
 mixed := by kernel_rfl
 f156 := Tryd.func39.trans (congrArg some (by kernel_rfl))
 f165 := Tryd.func68.trans (congrArg some (by kernel_rfl))
 f166 := Tryd.func69.trans (congrArg some (by kernel_rfl))
 f169 := Tryd.func70.trans (congrArg some (by kernel_rfl))
 f240 := Tryd.func95.trans (congrArg some (by kernel_rfl))
 f241 := Tryd.func96.trans (congrArg some (by kernel_rfl))
 f276 := Tryd.func109.trans (congrArg some (by kernel_rfl))
 f277 := Tryd.func110.trans (congrArg some (by kernel_rfl))
 t0 := Tryd.underlying0
 a0 := Tryd.isAgg0
 z0 := Tryd.sizeOf0
 v0 := Tryd.zeroValue0
 t3 := Tryd.underlying3
 a3 := Tryd.isAgg3
 z3 := Tryd.sizeOf3
 v3 := Tryd.zeroValue3
 t4 := Tryd.underlying4
 a4 := Tryd.isAgg4
 z4 := Tryd.sizeOf4
 v4 := Tryd.zeroValue4
 t9 := Tryd.underlying9
 a9 := Tryd.isAgg9
 z9 := Tryd.sizeOf9
 v9 := Tryd.zeroValue9
 t20 := Tryd.underlying20
 a20 := Tryd.isAgg20
 z20 := Tryd.sizeOf20
 v20 := Tryd.zeroValue20
 t31 := Tryd.underlying36
 a31 := Tryd.isAgg36
 z31 := Tryd.sizeOf36
 v31 := Tryd.zeroValue36
 t37 := Tryd.underlying22
 a37 := Tryd.isAgg22
 z37 := Tryd.sizeOf22
 v37 := Tryd.zeroValue22
 t70 := Tryd.underlying112
 a70 := Tryd.isAgg112
 z70 := Tryd.sizeOf112
 v70 := Tryd.zeroValue112
 t72 := Tryd.underlying114
 a72 := Tryd.isAgg114
 z72 := Tryd.sizeOf114
 v72 := Tryd.zeroValue114
 t75 := Tryd.underlying117
 a75 := Tryd.isAgg117
 z75 := Tryd.sizeOf117
 v75 := Tryd.zeroValue117
 t76 := Tryd.underlying118
 a76 := Tryd.isAgg118
 z76 := Tryd.sizeOf118
 v76 := Tryd.zeroValue118
 t127 := Tryd.underlying142
 a127 := Tryd.isAgg142
 z127 := Tryd.sizeOf142
 v127 := Tryd.zeroValue142
 t164 := Tryd.underlying152
 a164 := Tryd.isAgg152
 z164 := Tryd.sizeOf152
 v164 := Tryd.zeroValue152 }
theorem extra156 : Builder.Extra Tryd.prog lays156_ren := {
 sizeBuilder := by kernel_rfl
 liesBuilder := by kernel_rfl
 t5 := Tryd.underlying5
 a5 := Tryd.isAgg5
 z5 := Tryd.sizeOf5
 v5 := Tryd.zeroValue5
 infoByte := by kernel_rfl
 cellsByte := by kernel_rfl
 sizeByte := by kernel_rfl
 neB5 := by decide }
theorem join_laid (bk o c : Nat) (xs : List ByteArray) (sep : ByteArray) (w : World) (hcells : ∀ (j : Nat) x, xs[j]? = some x → w.cell? ⟨bk, o + j, none⟩ = some (.string x)) (hbk : bk < w.heap.size) (hN : xs.length ≤ 140737488355328) (hcap : xs.length ≤ c) (hlen : (Lib.join (xs.map (·.data.toList)) sep.data.toList).length ≤ 140737488355328) :
 Calls Tryd.prog 39 #[.slice (some ⟨bk, o, none⟩) xs.length c, .string sep] w fun e w' => e = .returned (.string ⟨(Lib.join (xs.map (·.data.toList)) sep.data.toList).toArray⟩) ∧ Below w.heap.size w w' := Any.strings_Join lays156 extra156 bk o c xs sep w hcells hbk hN hcap hlen
end Go.Proofs.YtakfniknkejgpaaDoor.Sf

/- impl.padBlocks: the bytes, 0x80, noughts and how many bits they have. -/
namespace Go.Proofs.YtakfniknkejgpaaDoor.Sh
open Go.RowKit Go.Proofs.YtakfniknkejgpaaDoor.Sl Go.Proofs.YtakfniknkejgpaaDoor.Me

theorem nth_lt {xs ys : List Int} {j : Nat} (h : j < xs.length) : nth (xs ++ ys) j = nth xs j := by
 unfold nth; rw [List.getD_eq_getElem?_getD, List.getElem?_append_left h, List.getD_eq_getElem?_getD]
theorem nth_ge {xs ys : List Int} {j : Nat} (h : xs.length ≤ j) : nth (xs ++ ys) j = nth ys (j - xs.length) := by
 unfold nth; rw [List.getD_eq_getElem?_getD, List.getElem?_append_right h, List.getD_eq_getElem?_getD]
theorem nth_repl (n j : Nat) : nth (List.replicate n 0) j = 0 := by
 unfold nth; rw [List.getD_eq_getElem?_getD, List.getElem?_replicate]; split <;> rfl
theorem pad_low (xs : List Int) (j : Nat) (h : j < xs.length) : nth (pad xs) j = nth xs j := by
 unfold pad; rw [List.append_assoc, List.append_assoc, nth_lt h]
theorem pad_mid (xs : List Int) : nth (pad xs) xs.length = 128 := by
 unfold pad; rw [List.append_assoc, List.append_assoc, nth_ge (Nat.le_refl _), Nat.sub_self]; rfl
theorem pad_zero (xs : List Int) (j : Nat) (h : xs.length < j) (h2 : j < xs.length + 1 + zerosOf xs.length) : nth (pad xs) j = 0 := by
 unfold pad
 rw [List.append_assoc, nth_ge (by simp; omega), nth_lt (by simp; omega), nth_repl]
theorem pad_tail (xs : List Int) (k : Nat) (h : k < 8) : nth (pad xs) (xs.length + 1 + zerosOf xs.length + k) = lenByte xs.length k := by
 unfold pad
 rw [nth_ge (by simp; omega)]
 have e : xs.length + 1 + zerosOf xs.length + k - (xs ++ [128] ++ List.replicate (zerosOf xs.length) 0).length = k := by simp; omega
 rw [e]
 match k, h with
 | 0, _ => rfl
 | 1, _ => rfl
 | 2, _ => rfl
 | 3, _ => rfl
 | 4, _ => rfl
 | 5, _ => rfl
 | 6, _ => rfl
 | 7, _ => rfl
theorem pad_range {xs : List Int} (hr : ∀ x ∈ xs, 0 ≤ x ∧ x ≤ 255) : ∀ x ∈ pad xs, 0 ≤ x ∧ x ≤ 255 := by
 have hl : ∀ m, 0 ≤ lenByte xs.length m ∧ lenByte xs.length m ≤ 255 := fun m => by unfold lenByte; omega
 intro x hx
 unfold pad lenBytes at hx
 simp only [List.mem_append, List.mem_replicate, List.mem_cons, List.not_mem_nil, or_false] at hx
 rcases hx with ((h | h) | h) | h
 ·exact hr x h
 ·omega
 ·omega
 ·rcases h with h | h | h | h | h | h | h | h <;> (rw [h]; exact hl _)

def Padded (xs : List Int) (M k : Nat) (A : Array Value) : Prop := A.size = M ∧ ∀ j, j < M → (j < M - 8 ∨ M - k ≤ j) → A[j]? = some (.int .u8 (nth (pad xs) j))
theorem padded_step {xs : List Int} {M k : Nat} {A : Array Value} (h : Padded xs M k A) (hM : M = xs.length + 9 + zerosOf xs.length) (hk : k < 8) (z : Int) (hz : z = lenByte xs.length (7 - k)) : Padded xs M (k + 1) (A.setIfInBounds (M - 1 - k) (.int .u8 z)) := by
 refine ⟨by rw [Array.size_setIfInBounds]; exact h.1, fun j hj hc => ?_⟩
 rw [Array.getElem?_setIfInBounds]
 by_cases e : M - 1 - k = j
 ·rw [if_pos e, if_pos (by rw [h.1]; omega), hz, ← pad_tail xs (7 - k) (by omega)]
  have e2 : xs.length + 1 + zerosOf xs.length + (7 - k) = j := by omega
  rw [e2]
 ·rw [if_neg e]
  exact h.2 j hj (by omega)
theorem copied_at (cur : List Value) (xs : List Int) (M : Nat) (hz : ∀ j, j < M → cur[j]? = some (.int .u8 0)) (j : Nat) (hj : j < M) :
 (splice cur 0 (xs.map (Value.int .u8)))[j]? = some (.int .u8 (if j < xs.length then nth xs j else 0)) := by
 unfold splice
 rw [List.take_zero, List.nil_append]
 by_cases h : j < xs.length
 ·rw [if_pos h, List.getElem?_append_left (by simpa using h), List.getElem?_map, List.getElem?_eq_getElem h]
  unfold nth
  rw [List.getD_eq_getElem?_getD, List.getElem?_eq_getElem h]
  rfl
 ·rw [if_neg h, List.getElem?_append_right (by simpa using h), List.getElem?_drop, List.length_map, show 0 + xs.length + (j - xs.length) = j by omega]
  exact hz j hj
theorem padded_zero {xs : List Int} {M : Nat} {A : Array Value} (hM : M = xs.length + 9 + zerosOf xs.length) (hs : A.size = M) (h : ∀ j, j < M → A[j]? = some (.int .u8 (if j < xs.length then nth xs j else 0))) : Padded xs M 0 (A.setIfInBounds xs.length (.int .u8 128)) := by
 refine ⟨by rw [Array.size_setIfInBounds]; exact hs, fun j hj hc => ?_⟩
 rw [Array.getElem?_setIfInBounds]
 by_cases e : xs.length = j
 ·rw [if_pos e, if_pos (by omega), ← e, pad_mid]
 ·rw [if_neg e, h j hj]
  by_cases g : j < xs.length
  ·rw [if_pos g, pad_low xs j g]
  ·rw [if_neg g, pad_zero xs j (by omega) (by omega)]
theorem addr_add (b off j : Nat) : (⟨b, off, none⟩ : Addr).add j = ⟨b, off + j, none⟩ := by unfold Addr.add; split <;> simp_all
theorem len_eq (n k : Nat) (h : k < 8) : (n : Int) * 8 / 2 ^ (8 * k) % 256 = lenByte n (7 - k) := by
 unfold lenByte
 rw [show 7 - (7 - k) = k by omega, Nat.mul_comm 8 n, Int.natCast_emod, Int.natCast_ediv, Int.natCast_mul, Int.natCast_pow]
 rfl
theorem ret_slice {x : Option Addr} {m n : Nat} (h : m = n) : Ending.returned (.slice x m m) = .returned (.slice x n n) := by rw [h]
theorem infoB : (Tryd.prog.info? 5).map (·.size) = some 1 := by kernel_rfl

set_option maxRecDepth 100000 in
set_option maxHeartbeats 1600000 in
theorem padBlocks_any (v : Value) (xs : List Int) (w : World) (h : RowB w v xs) (hl : xs.length ≤ 65536) :
 Calls Tryd.prog 89 #[v] w fun e w' => ∃ A, e = .returned (.slice (some ⟨w.heap.size, 0, none⟩) (pad xs).length (pad xs).length) ∧ ArrAt w' w.heap.size 5 A ∧ (∀ j, j < (pad xs).length → A[j]? = some (.int .u8 (nth (pad xs) j))) ∧ Below w.heap.size w w' := by
 obtain ⟨a, cap, rfl, h, _⟩ := h
 obtain ⟨i0, hi, hz0, hz1, hz2⟩ := info_parts info5
 have hl' : (xs.length : Int) ≤ 65536 := by omega
 have hpl := pad_length xs
 obtain ⟨M, hM⟩ : ∃ M, M = (pad xs).length := ⟨_, rfl⟩
 have hMb := pad_blocks xs
 have hME : ((xs.length : Int) + 1 + 8 + 64 - 1) / 64 * 64 = (M : Int) := by omega
 have hmk := run_make (P := Tryd.prog) w 22 5 i0 (.int .u8 0) Tryd.underlying22 hi hz0 .i64 .i64 (M : Int) (M : Int) (by omega) (by omega) (by rw [hz2]; omega) (by omega)
 have hA0 : (madeCells (Value.int .u8 0).cells ((M : Int).toNat * i0.size)).toList.length = M ∧ ∀ j, j < M → (madeCells (Value.int .u8 0).cells ((M : Int).toNat * i0.size)).toList[j]? = some (.int .u8 0) := by
  rw [hz1]
  refine ⟨by simp [madeCells, Value.cells], fun j hj => by simp [madeCells, Value.cells, hj, Nat.mod_one]⟩
 have hto : madeCells (Value.int .u8 0).cells ((M : Int).toNat * i0.size) = (madeCells (Value.int .u8 0).cells ((M : Int).toNat * i0.size)).toList.toArray := by simp
 rw [hto] at hmk
 generalize (madeCells (Value.int .u8 0).cells ((M : Int).toNat * i0.size)).toList = cur at hmk hA0
 rw [Int.toNat_natCast] at hmk
 have HM : Hid (M = xs.length + 9 + zerosOf xs.length) := by show M = _; omega
 have HP : Hid (M = (pad xs).length) := hM
 have q0 : (xs.length : Int) + 9 ≤ (M : Int) := by omega
 have q1 : (M : Int) ≤ 65608 := by omega
 have q2 : (xs.length : Int) < (M : Int) := by omega
 have hn : (xs.map (Value.int .u8)).length = Nat.min xs.length M := by rw [List.length_map]; exact (Nat.min_eq_left (by omega)).symm
 have hpos : 0 < (xs.map (Value.int .u8)).length → (some ⟨w.heap.size, 0, none⟩ : Option Addr) = some ⟨w.heap.size, 0, none⟩ ∧ ∃ ad, a = some ad ∧ ∀ j v, (xs.map (Value.int .u8))[j]? = some v → (w.alloc (.cells cur.toArray 5)).cell? (ad.add j) = some v := by
  intro hp
  rcases h with h | ⟨b, off, rfl, hc, hb, hcell⟩
  ·rw [h] at hp; exact absurd hp (by simp)
  ·refine ⟨rfl, _, rfl, fun j v hv => ?_⟩
   have hj : j < xs.length := by have := (List.getElem?_eq_some_iff.1 hv).1; simpa using this
   rw [addr_add, World.cell?_alloc_past _ _ _ hb, hcell j hj, ← hv, List.getElem?_map, List.getElem?_eq_getElem hj]
   unfold nth
   rw [List.getD_eq_getElem?_getD, List.getElem?_eq_getElem hj]
   rfl
 have hfit : 0 + (xs.map (Value.int .u8)).length ≤ cur.length := by rw [List.length_map]; omega
 have h1 : ∀ v ∈ xs.map (Value.int .u8), v.oneCell' = true := by intro v hv; obtain ⟨z, _, rfl⟩ := List.mem_map.1 hv; rfl
 have hA1 : (splice cur 0 (xs.map (Value.int .u8))).toArray.size = M ∧ ∀ j, j < M → (splice cur 0 (xs.map (Value.int .u8))).toArray[j]? = some (.int .u8 (if j < xs.length then nth xs j else 0)) := by
  refine ⟨?_, fun j hj => ?_⟩
  ·have := length_splice cur 0 (xs.map (Value.int .u8)) hfit; simp only [List.size_toArray]; omega
  ·simp only [List.getElem?_toArray]; exact copied_at cur xs M hA0.2 j hj
 have hP0 := padded_zero HM.out hA1.1 hA1.2
 have hb0 : Below w.heap.size w (w.alloc (.cells cur.toArray 5)) := (Below.refl _ _).alloc (Nat.le_refl _) _
 have hex : ∃ x, (splice cur 0 (xs.map (Value.int .u8))).toArray[xs.length]? = some x := ⟨_, hA1.2 xs.length (by omega)⟩
 have GN : Hid _ := hn
 have GP : Hid _ := hpos
 have GF : Hid _ := hfit
 have G1 : Hid _ := h1
 have GB : Hid _ := hb0
 obtain ⟨L, hL⟩ : ∃ L, L = (splice cur 0 (xs.map (Value.int .u8))).toArray := ⟨_, rfl⟩
 rw [← hL] at hP0 hex
 have GL : Hid (L = (splice cur 0 (xs.map (Value.int .u8))).toArray) := hL
 have HE : Hid (∃ x, L[xs.length]? = some x) := hex
 have HP0 : Hid (Padded xs M 0 (L.setIfInBounds xs.length (.int .u8 128))) := hP0
 clear hn hpos hfit h1 hb0 hL hex hP0 hA1 hA0 h hpl hMb hM hto
 go_enter Tryd.func89, Tryd.ntmps89
 go_wp2_with (refine wpList_copy_splice (by rfl) _ _ 22 22 (by rfl) 5 Tryd.underlying22 infoB _ _ _ _ _ _ (by rfl) (by rfl) w.heap.size 0 cur 5 (arrAt_new w _ _) _ GN.out (fun hp => ⟨rfl, (GP.out hp).2⟩) GF.out G1.out w.heap.size w GB.out (Nat.le_refl _) ?_; intro w1 hC hb1; have hA : ArrAt w1 w.heap.size 5 L := (by rw [GL.out]; exact hC); obtain ⟨y, hy⟩ := HE.out; have cn : w1.cell? ⟨w.heap.size, xs.length, none⟩ = some y := (hA.cell _).trans hy; have fn := hA.frozen xs.length)
 clear GN GP GF G1 GB hmk hC
 go_loopw [30] (fun i wr => ∃ k : Nat, ∃ A : Array Value, k ≤ 8 ∧ i = .int .i64 k ∧ Below w.heap.size w wr ∧ ArrAt wr w.heap.size 5 A ∧ Padded xs M k A) (fun i _ => 8 - (intOf i).toNat)
 case atStart => exact ⟨0, _, by omega, rfl, hb1.setCell (p := ⟨w.heap.size, xs.length, none⟩) (Nat.le_refl _) _, hA.setCell_same _ _, HP0.out⟩
 case round =>
  clear hA cn fn hy hb1
  obtain ⟨k, A, hk, rfl, hbel, hA, hP⟩ := hrel
  by_cases hlt : k < 8
  ·obtain ⟨x, hx⟩ : ∃ x, A[M - 1 - k]? = some x := ⟨_, Array.getElem?_eq_getElem (by rw [hP.1]; omega)⟩
   have cx : wr.cell? ⟨w.heap.size, M - 1 - k, none⟩ = some x := (hA.cell _).trans hx
   have fx := hA.frozen (M - 1 - k)
   have p0 : (0 : Int) ≤ (M : Int) - 1 - (k : Int) := by omega
   have p1 : (M : Int) - 1 - (k : Int) < (M : Int) := by omega
   have p2 : (0 : Int) ≤ 8 * (k : Int) := by omega
   have hP2 := padded_step hP HM.out hlt ((xs.length : Int) * 8 / 2 ^ (8 * k) % 256) (len_eq xs.length k hlt)
   go_wp2_with fail
   exact ⟨⟨k + 1, _, by omega, by go_num, hbel.setCell (p := ⟨w.heap.size, M - 1 - k, none⟩) (Nat.le_refl _) _, hA.setCell_same _ _, hP2⟩, by simp [intOf]; omega⟩
  ·obtain rfl : k = 8 := by omega
   have hfin : Hid (∀ j, j < (pad xs).length → A[j]? = some (.int .u8 (nth (pad xs) j))) := fun j hj => hP.2 j (by rw [HP.out]; exact hj) (by omega)
   go_wp2_with fail
   go_ret
   exact ⟨A, ret_slice HP.out, hA, hfin.out, hbel⟩
end Go.Proofs.YtakfniknkejgpaaDoor.Sh
