/- A text is cut at blanks; a grant is read from its text: the specification. -/
import Derived.Test.YtimmeclclilpdaaDoorGrn
import Derived.Test.YtimmeclclilpdaaDoorTz
import Derived.Deep.Cut
namespace Go.Proofs.YtimmeclclilpdaaDoor.Gr12
open Go.RowKit Go.Sort Go.Proofs.YtimmeclclilpdaaDoor.Ap Go.Proofs.YtimmeclclilpdaaDoor.Tx
open Go.Proofs.YtimmeclclilpdaaDoor.Rq (inB ret_bool)

/-- The words of a text, parted at each blank. -/
def cutS (t : ByteArray) : List ByteArray := (cutL [] t.data.toList).map baL
theorem baL_inj {s : ByteArray} {l : List UInt8} (h : s.data.toList = l) : s = baL l := by rw [← h]; rfl
theorem drop_at (t : ByteArray) (k : Nat) (hk : k < t.size) : t.data.toList.drop k = (t[k]'hk) :: t.data.toList.drop (k + 1) := by
  have hl : k < t.data.toList.length := by rw [size_list]; exact hk
  rw [List.drop_eq_getElem_cons hl]
  congr 1
theorem cur_succ (t : ByteArray) (f k : Nat) (hf : f ≤ k) (hk : k < t.size) : (t.data.toList.drop f).take (k + 1 - f) = (t.data.toList.drop f).take (k - f) ++ [t[k]'hk] := by
  rw [show k + 1 - f = (k - f) + 1 by omega, List.take_add_one, List.getElem?_drop, show f + (k - f) = k by omega, at_list t k hk]
  rfl
/-- While a text is cut: ts are the words up to f, the byte k is looked at. -/
def CutI (t : ByteArray) (ts : List ByteArray) (f k : Nat) : Prop := ts.map baD ++ cutL ((t.data.toList.drop f).take (k - f)) (t.data.toList.drop k) = cutL [] t.data.toList
where baD (s : ByteArray) : List UInt8 := s.data.toList
theorem CutI.zero (t : ByteArray) : CutI t [] 0 0 := by show [] ++ cutL [] t.data.toList = _; rfl
theorem CutI.word {t : ByteArray} {ts : List ByteArray} {f k : Nat} (h : CutI t ts f k) (hk : k < t.size) (hb : t[k]'hk = 32) : CutI t (ts ++ [t.extract f k]) (k + 1) (k + 1) := by
  unfold CutI at h ⊢
  rw [drop_at t k hk, hb] at h
  rw [cutL, if_pos rfl] at h
  rw [← h, List.map_append, List.append_assoc, Nat.sub_self, List.take_zero]
  congr 1
  show [CutI.baD (t.extract f k)] ++ _ = _
  unfold CutI.baD
  rw [ext_list]
  rfl
theorem CutI.more {t : ByteArray} {ts : List ByteArray} {f k : Nat} (h : CutI t ts f k) (hf : f ≤ k) (hk : k < t.size) (hb : t[k]'hk ≠ 32) : CutI t ts f (k + 1) := by
  unfold CutI at h ⊢
  rw [drop_at t k hk, cutL, if_neg hb, ← cur_succ t f k hf hk] at h
  exact h
theorem CutI.last {t : ByteArray} {ts : List ByteArray} {f : Nat} (h : CutI t ts f t.size) : ts ++ [t.extract f t.size] = cutS t := by
  unfold CutI at h
  have e1 : t.data.toList.drop t.size = [] := List.drop_of_length_le (by rw [size_list]; exact Nat.le_refl _)
  rw [e1] at h
  simp only [cutL] at h
  unfold cutS
  rw [← h, List.map_append, List.map_map]
  congr 1
  · refine (List.map_id _).symm.trans (List.map_congr_left fun s _ => ?_)
    rfl
  · show [_] = [baL _]
    rw [← ext_list]
    rfl
theorem own0 (w : World) : OwnS (w.alloc (.cells #[] 9)) w.heap.size (.slice (some ⟨w.heap.size, 0, none⟩) 0 0) [] := ⟨rfl, .inr ⟨w.heap.size, 0, #[], rfl, Nat.le_refl _, heap_alloc_new w _, Nat.le_refl _, by unfold maxLen; decide, rfl, rfl⟩⟩
theorem byte32 {b : UInt8} : ((b.toNat : Int) == 32) = (b == 32) := by
  rw [Bool.eq_iff_iff, beq_iff_eq, beq_iff_eq]
  constructor
  · intro h; apply UInt8.toNat_inj.1; show b.toNat = 32; omega
  · intro h; rw [h]; rfl
set_option maxRecDepth 100000 in
set_option maxHeartbeats 1600000 in
theorem l00Cut_any (t : ByteArray) (w : World) (ht : t.size ≤ 70000) :
    Calls Tryd.prog 38 #[.string t, .int .u8 32] w fun e w' => ∃ v, e = .returned v ∧ RowT w' v (cutS t) ∧ Below w.heap.size w w' := by
  obtain ⟨i0, hi0, hz0, hz1, hz2⟩ := info_parts info9
  have HT : Hid (t.size ≤ 70000) := ht
  have htI : (t.size : Int) ≤ 70000 := by omega
  clear ht
  go_enter Tryd.func38, Tryd.ntmps38
  go_wp2_with fail
  go_loopw [5, 6, 7] (fun u f i wr => ∃ (k q : Nat) (ts : List ByteArray), k ≤ t.size ∧ q ≤ k ∧ f = .int .i64 q ∧ i = .int .i64 k ∧ OwnS wr w.heap.size u ts ∧ Below w.heap.size w wr ∧ Hid (CutI t ts q k ∧ ts.length ≤ k)) (fun _ _ i _ => t.size - (intOf i).toNat)
  case atStart => exact ⟨0, 0, [], by omega, by omega, rfl, rfl, own0 w, bel_new _ _, CutI.zero t, Nat.le_refl _⟩
  case round =>
    obtain ⟨k, q, ts, hk, hq, rfl, rfl, ho, hb, HC⟩ := hrel
    by_cases hlt : k < t.size
    · have hI : (k : Int) < (t.size : Int) := by omega
      have hqk : (q : Int) ≤ (k : Int) := by omega
      have hkI : (k : Int) ≤ (t.size : Int) := by omega
      by_cases h32 : t[k]'hlt = 32
      · have h32' : (((t[k]'hlt).toNat : Int) == 32) = true := by rw [byte32]; simpa using h32
        have HN : Hid (CutI t (ts ++ [t.extract q k]) (k + 1) (k + 1)) := HC.out.1.word hlt h32
        have HL : Hid (ts.length ≤ 1000000) := by show _ ≤ _; have := HC.out.2; have := HT.out; omega
        clear h32
        go_wp2_with (at_builtin; go_must (refine list_texts (by rfl) _ _ 42 (by rfl) i0 Tryd.underlying42 hi0 hz0 hz1 hz2 w.heap.size w wr _ _ [t.extract q k] _ 1 rfl rfl (by decide) (by rfl) ho hb hb.size (by rfl) HL.out ?_; intro v5 w5 o5 b5 _ _))
        exact ⟨⟨k + 1, k + 1, _, by omega, by omega, by go_num, by go_num, o5, b5, HN.out, by rw [List.length_append]; have := HC.out.2; simp; omega⟩, by simp [intOf]; omega⟩
      · have h32' : (((t[k]'hlt).toNat : Int) == 32) = false := by rw [byte32]; simpa using h32
        have HN : Hid (CutI t ts q (k + 1)) := HC.out.1.more hq hlt h32
        clear h32
        go_wp2_with fail
        exact ⟨⟨k + 1, q, ts, by omega, by omega, rfl, by go_num, ho, hb, HN.out, by have := HC.out.2; omega⟩, by simp [intOf]; omega⟩
    · obtain rfl : k = t.size := by omega
      have hI : ¬ (t.size : Int) < (t.size : Int) := by omega
      have hqk : (q : Int) ≤ (t.size : Int) := by omega
      have HN : Hid (ts ++ [t.extract q t.size] = cutS t) := HC.out.1.last
      have HL : Hid (ts.length ≤ 1000000) := by show _ ≤ _; have := HC.out.2; have := HT.out; omega
      go_wp2_with (at_builtin; go_must (refine list_texts (by rfl) _ _ 42 (by rfl) i0 Tryd.underlying42 hi0 hz0 hz1 hz2 w.heap.size w wr _ _ [t.extract q t.size] _ 1 rfl rfl (by decide) (by rfl) ho hb hb.size (by rfl) HL.out ?_; intro v5 w5 o5 b5 _ _))
      rw [HN.out] at o5
      go_ret
      exact ⟨_, rfl, o5.row, b5⟩
/-- What ReadGrant answers. -/
def zG : Gg := ⟨⟨#[]⟩, 0, 0, 0⟩
def rdG (t : ByteArray) : Gg := if 65536 < t.size then zG else (rsp grB t).getD zG
def rdC (t : ByteArray) : Int := if 65536 < t.size then 2 else if (rsp grB t).isSome then 0 else 3
theorem rd_long {t : ByteArray} (h : 65536 < t.size) : rdG t = zG ∧ rdC t = 2 := by unfold rdG rdC; rw [if_pos h, if_pos h]; exact ⟨rfl, rfl⟩
theorem rd_none {t : ByteArray} (h : ¬ 65536 < t.size) (e : rsp grB t = none) : rdG t = zG ∧ rdC t = 3 := by unfold rdG rdC; rw [if_neg h, if_neg h, e]; exact ⟨rfl, rfl⟩
theorem rd_some {t : ByteArray} {g : Gg} (h : ¬ 65536 < t.size) (e : rsp grB t = some g) : rdG t = g ∧ rdC t = 0 := by unfold rdG rdC; rw [if_neg h, if_neg h, e]; exact ⟨rfl, rfl⟩
/-- The grant that five words tell. -/
def gW (s1 s2 s3 s4 : ByteArray) : Gg := ⟨s1, nV s2, nV s3, nV s4⟩
theorem gOf_vals (w1 w2 w3 w4 : List UInt8) : gOf grB w1 w2 w3 w4 = if nB (baL w2) && (nB (baL w3) && (nB (baL w4) && grB (gW (baL w1) (baL w2) (baL w3) (baL w4)))) then some (gW (baL w1) (baL w2) (baL w3) (baL w4)) else none := by
  rcases hx : nm w2 with _ | a <;> rcases hy : nm w3 with _ | b <;> rcases hz : nm w4 with _ | c <;> simp [gOf, gW, nB, nV, baL_list, hx, hy, hz]
theorem rsp_len {t : ByteArray} (h : (cutS t).length ≠ 5) : rsp grB t = none := by
  unfold rsp
  split
  · rename_i hc
    exfalso
    apply h
    unfold cutS
    rw [hc]
    rfl
  · rfl
theorem rsp_five {t s0 s1 s2 s3 s4 : ByteArray} (h : cutS t = [s0, s1, s2, s3, s4]) : rsp grB t = if s0.data.toList = wrd then (if nB s2 && (nB s3 && (nB s4 && grB (gW s1 s2 s3 s4))) then some (gW s1 s2 s3 s4) else none) else none := by
  have e : cutL [] t.data.toList = [s0.data.toList, s1.data.toList, s2.data.toList, s3.data.toList, s4.data.toList] := by
    have := congrArg (List.map fun s : ByteArray => s.data.toList) h
    unfold cutS at this
    rw [List.map_map] at this
    rw [← List.map_id (cutL [] t.data.toList)]
    exact this
  unfold rsp
  rw [e]
  simp only [gOf_vals, baL_back]
  split <;> rfl
theorem five {ts : List ByteArray} (h : ts.length = 5) : ∃ s0 s1 s2 s3 s4, ts = [s0, s1, s2, s3, s4] := by
  match ts, h with
  | [s0, s1, s2, s3, s4], _ => exact ⟨s0, s1, s2, s3, s4, rfl⟩
theorem cut_small {t : ByteArray} : ∀ s ∈ cutS t, s.size ≤ t.size := by
  intro s hs
  unfold cutS at hs
  obtain ⟨l, hl, rfl⟩ := List.mem_map.1 hs
  have hj : ∀ (ws : List (List UInt8)), ∀ l ∈ ws, l.length ≤ (joinL ws).length := by
    intro ws
    induction ws with
    | nil => intro l h; cases h
    | cons a ws ih =>
      intro l h
      cases ws with
      | nil =>
        simp at h
        subst h
        simp [joinL]
      | cons b r =>
        simp only [joinL, List.length_append, List.length_cons]
        rcases List.mem_cons.1 h with rfl | h
        · omega
        · have := ih l h; omega
  have h1 := hj _ l hl
  rw [join_cut, List.nil_append, size_list] at h1
  rw [baL_size]
  exact h1
theorem row5 {w : World} {v : Value} {s0 s1 s2 s3 s4 : ByteArray} (h : RowT w v [s0, s1, s2, s3, s4]) : ∃ b o c, v = .slice (some ⟨b, o, none⟩) 5 c ∧ b < w.heap.size ∧ 5 ≤ c ∧ w.cell? ⟨b, o, none⟩ = some (.string s0) ∧ w.cell? ⟨b, o + 1, none⟩ = some (.string s1) ∧ w.cell? ⟨b, o + 2, none⟩ = some (.string s2) ∧ w.cell? ⟨b, o + 3, none⟩ = some (.string s3) ∧ w.cell? ⟨b, o + 4, none⟩ = some (.string s4) := by
  obtain ⟨a, c, rfl, h⟩ := h
  rcases h with h | ⟨b, o, rfl, hc, hb, hcell⟩
  · cases h
  · exact ⟨b, o, c, rfl, hb, hc, hcell 0 (by simp), hcell 1 (by simp), hcell 2 (by simp), hcell 3 (by simp), hcell 4 (by simp)⟩
theorem ret_gi {a b c d : Value} {x : Int} {g : Gg} {y : Int} (h : a = .string g.nm ∧ b = .int .i64 g.hd ∧ c = .int .i64 g.tk ∧ d = .int .i64 g.ex ∧ x = y) : Ending.returned (.tuple #[.agg #[a, b, c, d], .int .i64 x]) = .returned (.tuple #[gV g, .int .i64 y]) := by
  obtain ⟨rfl, rfl, rfl, rfl, rfl⟩ := h; rfl
set_option maxRecDepth 100000 in
set_option maxHeartbeats 1600000 in
theorem specReadGrant_any (t : ByteArray) (w : World) (ht : t.size ≤ 1048576) :
    Calls Tryd.prog 17 #[.string t] w fun e w' => e = .returned (.tuple #[gV (rdG t), .int .i64 (rdC t)]) ∧ Below w.heap.size w w' := by
  by_cases hl : 65536 < t.size
  · have HE : Hid (rdG t = zG ∧ rdC t = 2) := rd_long hl
    have h1 : (65536 : Int) < (t.size : Int) := by omega
    go_enter Tryd.func17, Tryd.ntmps17
    go_wp2_with fail
    refine bodyPost_ret (v := .tuple #[.agg #[.string ⟨#[]⟩, .int .i64 0, .int .i64 0, .int .i64 0], .int .i64 2]) (by simp [results, Tryd.results17, go_sem]) rfl ⟨by rw [HE.out.1, HE.out.2]; rfl, bel1 _ _⟩
  have h1 : ¬ (65536 : Int) < (t.size : Int) := by omega
  have HLN : Hid (¬ 65536 < t.size) := hl
  have HZ : Hid (∀ W, Below (w.alloc (.cells #[.string ⟨#[]⟩, .int .i64 0, .int .i64 0, .int .i64 0] 24)).heap.size (w.alloc (.cells #[.string ⟨#[]⟩, .int .i64 0, .int .i64 0, .int .i64 0] 24)) W → W.heap[w.heap.size]? = some (.cells #[.string ⟨#[]⟩, .int .i64 0, .int .i64 0, .int .i64 0] 24 (0, 0)) ∧ Below w.heap.size w W ∧ w.heap.size + 1 ≤ W.heap.size) := fun W hW => ⟨(hW.block w.heap.size (by simp)).trans (heap_alloc_new w _), (bel1 w _).trans (hW.mono (by simp)), by have := hW.size; simp at this; omega⟩
  have HC := l00Cut_any t (w.alloc (.cells #[.string ⟨#[]⟩, .int .i64 0, .int .i64 0, .int .i64 0] 24)) (by omega)
  have HSM : Hid (∀ s ∈ cutS t, s.size ≤ 70000) := fun s hs => by have := cut_small s hs; omega
  clear hl ht
  by_cases h5 : (cutS t).length = 5
  · obtain ⟨s0, s1, s2, s3, s4, HF⟩ := five h5
    have HR : Hid (rsp grB t = if s0.data.toList = wrd then (if nB s2 && (nB s3 && (nB s4 && grB (gW s1 s2 s3 s4))) then some (gW s1 s2 s3 s4) else none) else none) := rsp_five HF
    rw [HF] at HC
    have z1 : s1.size ≤ 70000 := HSM.out s1 (by rw [HF]; simp)
    have z2 : s2.size ≤ 70000 := HSM.out s2 (by rw [HF]; simp)
    have z3 : s3.size ≤ 70000 := HSM.out s3 (by rw [HF]; simp)
    have z4 : s4.size ≤ 70000 := HSM.out s4 (by rw [HF]; simp)
    have HN2 : Hid (∀ W, Calls Tryd.prog 39 #[.string s2] W fun e w' => e = .returned (.tuple #[.int .i64 (nV s2), .bool (nB s2)]) ∧ w' = W) := fun W => l00Number_any s2 W z2
    have HN3 : Hid (∀ W, Calls Tryd.prog 39 #[.string s3] W fun e w' => e = .returned (.tuple #[.int .i64 (nV s3), .bool (nB s3)]) ∧ w' = W) := fun W => l00Number_any s3 W z3
    have HN4 : Hid (∀ W, Calls Tryd.prog 39 #[.string s4] W fun e w' => e = .returned (.tuple #[.int .i64 (nV s4), .bool (nB s4)]) ∧ w' = W) := fun W => l00Number_any s4 W z4
    have HOK : Hid (∀ W, Calls Tryd.prog 31 #[.agg #[.string s1, .int .i64 (nV s2), .int .i64 (nV s3), .int .i64 (nV s4)]] W fun e w' => e = .returned (.bool (grB (gW s1 s2 s3 s4))) ∧ Below W.heap.size W w') := fun W => specGrantOK_any (gW s1 s2 s3 s4) W (by show s1.size ≤ maxLen; unfold maxLen; omega)
    clear HF h5 HSM z1 z2 z3 z4
    by_cases hw : s0.data.toList = wrd
    · have hw' : (s0.toList == [103, 114, 97, 110, 116]) = true := by rw [ByteArray.toList_eq, hw]; rfl
      have HR2 : Hid (rsp grB t = if nB s2 && (nB s3 && (nB s4 && grB (gW s1 s2 s3 s4))) then some (gW s1 s2 s3 s4) else none) := by show _ = _; rw [HR.out, if_pos hw]
      clear hw HR
      rcases hx : nB s2 with _ | _
      · have HE : Hid (rdG t = zG ∧ rdC t = 3) := rd_none HLN.out (by rw [HR2.out, hx]; rfl)
        rw [hx] at HN2
        clear hx HR2
        go_enter Tryd.func17, Tryd.ntmps17
        go_upto_region 3 with fail
        generalize (w.alloc (.cells #[.string ⟨#[]⟩, .int .i64 0, .int .i64 0, .int .i64 0] 24)) = wb at HZ HC ⊢
        go_wp2_with fail
        refine HC.mono ?_
        rintro e w1 ⟨v, rfl, r1, b1⟩
        obtain ⟨b, o, c, rfl, hb, hc, y0, y1, y2, y3, y4⟩ := row5 r1
        have B1 : Hid (Below wb.heap.size wb w1) := b1
        have hcI : (5 : Int) ≤ (c : Int) := by omega
        have q2 : ∀ x, (w1.alloc x).cell? ⟨b, o + 2, none⟩ = some (.string s2) := fun x => ((bel1 w1 x).cell (p := ⟨b, o + 2, none⟩) hb).trans y2
        have q3 : ∀ x, (w1.alloc x).cell? ⟨b, o + 3, none⟩ = some (.string s3) := fun x => ((bel1 w1 x).cell (p := ⟨b, o + 3, none⟩) hb).trans y3
        have q4 : ∀ x, (w1.alloc x).cell? ⟨b, o + 4, none⟩ = some (.string s4) := fun x => ((bel1 w1 x).cell (p := ⟨b, o + 4, none⟩) hb).trans y4
        clear b1 r1 HC y2 y3 y4
        have AX : Hid ((w1.alloc (.cells #[.string s1, .int .i64 (nV s2), .int .i64 (nV s3), .int .i64 (nV s4)] 24)).heap[w.heap.size]? = some (.cells #[.string ⟨#[]⟩, .int .i64 0, .int .i64 0, .int .i64 0] 24 (0, 0))) := ((bel1 w1 _).block _ (by have := (HZ.out _ B1.out).2.2; omega)).trans (HZ.out _ B1.out).1
        have GX : Hid (Below w.heap.size w (w1.alloc (.cells #[.string s1, .int .i64 (nV s2), .int .i64 (nV s3), .int .i64 (nV s4)] 24))) := (HZ.out _ B1.out).2.1.trans ((bel1 w1 _).mono (HZ.out _ B1.out).2.1.size)
        go_upto_region 13 with (first | (go_at_call 39; (first | (with_reducible refine (HN2.out _).mono ?_) | (with_reducible refine (HN3.out _).mono ?_) | (with_reducible refine (HN4.out _).mono ?_)); rintro e w9 ⟨rfl, rfl⟩))
        generalize (w1.alloc (.cells #[.string s1, .int .i64 (nV s2), .int .i64 (nV s3), .int .i64 (nV s4)] 24)) = w3 at AX GX ⊢
        obtain ⟨zc0, zf0⟩ := blk_cell AX.out 0 (x := .string ⟨#[]⟩) rfl
        obtain ⟨zc1, zf1⟩ := blk_cell AX.out 1 (x := .int .i64 0) rfl
        obtain ⟨zc2, zf2⟩ := blk_cell AX.out 2 (x := .int .i64 0) rfl
        obtain ⟨zc3, zf3⟩ := blk_cell AX.out 3 (x := .int .i64 0) rfl
        have AF : ((((w3.setCell ⟨w.heap.size, 0, none⟩ (.string ⟨#[]⟩)).setCell ⟨w.heap.size, 1, none⟩ (.int .i64 0)).setCell ⟨w.heap.size, 2, none⟩ (.int .i64 0)).setCell ⟨w.heap.size, 3, none⟩ (.int .i64 0)).heap[w.heap.size]? = some (.cells #[.string ⟨#[]⟩, .int .i64 0, .int .i64 0, .int .i64 0] 24 (0, 0)) := (blk_set (blk_set (blk_set (blk_set AX.out 0 (.string ⟨#[]⟩)) 1 (.int .i64 0)) 2 (.int .i64 0)) 3 (.int .i64 0))
        have GF : Below w.heap.size w ((((w3.setCell ⟨w.heap.size, 0, none⟩ (.string ⟨#[]⟩)).setCell ⟨w.heap.size, 1, none⟩ (.int .i64 0)).setCell ⟨w.heap.size, 2, none⟩ (.int .i64 0)).setCell ⟨w.heap.size, 3, none⟩ (.int .i64 0)) := (Below.setCell (Below.setCell (Below.setCell (Below.setCell GX.out (p := ⟨w.heap.size, 0, none⟩) (Nat.le_refl _) (.string ⟨#[]⟩)) (p := ⟨w.heap.size, 1, none⟩) (Nat.le_refl _) (.int .i64 0)) (p := ⟨w.heap.size, 2, none⟩) (Nat.le_refl _) (.int .i64 0)) (p := ⟨w.heap.size, 3, none⟩) (Nat.le_refl _) (.int .i64 0))
        go_wp2_with fail
        generalize ((((w3.setCell ⟨w.heap.size, 0, none⟩ (.string ⟨#[]⟩)).setCell ⟨w.heap.size, 1, none⟩ (.int .i64 0)).setCell ⟨w.heap.size, 2, none⟩ (.int .i64 0)).setCell ⟨w.heap.size, 3, none⟩ (.int .i64 0)) = wf at AF GF ⊢
        have d0 := (blk_cell AF 0 (x := .string ⟨#[]⟩) rfl).1
        have d1 := (blk_cell AF 1 (x := .int .i64 0) rfl).1
        have d2 := (blk_cell AF 2 (x := .int .i64 0) rfl).1
        have d3 := (blk_cell AF 3 (x := .int .i64 0) rfl).1
        refine bodyPost_ret (v := .tuple #[.agg #[.string ⟨#[]⟩, .int .i64 0, .int .i64 0, .int .i64 0], .int .i64 3]) (by simp [results, Tryd.results17, go_sem, d0, d1, d2, d3]) rfl ⟨by rw [HE.out.1, HE.out.2]; rfl, GF⟩
      rcases hy : nB s3 with _ | _
      · have HE : Hid (rdG t = zG ∧ rdC t = 3) := rd_none HLN.out (by rw [HR2.out, hx, hy]; rfl)
        rw [hx] at HN2
        rw [hy] at HN3
        clear hx hy HR2
        go_enter Tryd.func17, Tryd.ntmps17
        go_upto_region 3 with fail
        generalize (w.alloc (.cells #[.string ⟨#[]⟩, .int .i64 0, .int .i64 0, .int .i64 0] 24)) = wb at HZ HC ⊢
        go_wp2_with fail
        refine HC.mono ?_
        rintro e w1 ⟨v, rfl, r1, b1⟩
        obtain ⟨b, o, c, rfl, hb, hc, y0, y1, y2, y3, y4⟩ := row5 r1
        have B1 : Hid (Below wb.heap.size wb w1) := b1
        have hcI : (5 : Int) ≤ (c : Int) := by omega
        have q2 : ∀ x, (w1.alloc x).cell? ⟨b, o + 2, none⟩ = some (.string s2) := fun x => ((bel1 w1 x).cell (p := ⟨b, o + 2, none⟩) hb).trans y2
        have q3 : ∀ x, (w1.alloc x).cell? ⟨b, o + 3, none⟩ = some (.string s3) := fun x => ((bel1 w1 x).cell (p := ⟨b, o + 3, none⟩) hb).trans y3
        have q4 : ∀ x, (w1.alloc x).cell? ⟨b, o + 4, none⟩ = some (.string s4) := fun x => ((bel1 w1 x).cell (p := ⟨b, o + 4, none⟩) hb).trans y4
        clear b1 r1 HC y2 y3 y4
        have AX : Hid ((w1.alloc (.cells #[.string s1, .int .i64 (nV s2), .int .i64 (nV s3), .int .i64 (nV s4)] 24)).heap[w.heap.size]? = some (.cells #[.string ⟨#[]⟩, .int .i64 0, .int .i64 0, .int .i64 0] 24 (0, 0))) := ((bel1 w1 _).block _ (by have := (HZ.out _ B1.out).2.2; omega)).trans (HZ.out _ B1.out).1
        have GX : Hid (Below w.heap.size w (w1.alloc (.cells #[.string s1, .int .i64 (nV s2), .int .i64 (nV s3), .int .i64 (nV s4)] 24))) := (HZ.out _ B1.out).2.1.trans ((bel1 w1 _).mono (HZ.out _ B1.out).2.1.size)
        go_upto_region 13 with (first | (go_at_call 39; (first | (with_reducible refine (HN2.out _).mono ?_) | (with_reducible refine (HN3.out _).mono ?_) | (with_reducible refine (HN4.out _).mono ?_)); rintro e w9 ⟨rfl, rfl⟩))
        generalize (w1.alloc (.cells #[.string s1, .int .i64 (nV s2), .int .i64 (nV s3), .int .i64 (nV s4)] 24)) = w3 at AX GX ⊢
        obtain ⟨zc0, zf0⟩ := blk_cell AX.out 0 (x := .string ⟨#[]⟩) rfl
        obtain ⟨zc1, zf1⟩ := blk_cell AX.out 1 (x := .int .i64 0) rfl
        obtain ⟨zc2, zf2⟩ := blk_cell AX.out 2 (x := .int .i64 0) rfl
        obtain ⟨zc3, zf3⟩ := blk_cell AX.out 3 (x := .int .i64 0) rfl
        have AF : ((((w3.setCell ⟨w.heap.size, 0, none⟩ (.string ⟨#[]⟩)).setCell ⟨w.heap.size, 1, none⟩ (.int .i64 0)).setCell ⟨w.heap.size, 2, none⟩ (.int .i64 0)).setCell ⟨w.heap.size, 3, none⟩ (.int .i64 0)).heap[w.heap.size]? = some (.cells #[.string ⟨#[]⟩, .int .i64 0, .int .i64 0, .int .i64 0] 24 (0, 0)) := (blk_set (blk_set (blk_set (blk_set AX.out 0 (.string ⟨#[]⟩)) 1 (.int .i64 0)) 2 (.int .i64 0)) 3 (.int .i64 0))
        have GF : Below w.heap.size w ((((w3.setCell ⟨w.heap.size, 0, none⟩ (.string ⟨#[]⟩)).setCell ⟨w.heap.size, 1, none⟩ (.int .i64 0)).setCell ⟨w.heap.size, 2, none⟩ (.int .i64 0)).setCell ⟨w.heap.size, 3, none⟩ (.int .i64 0)) := (Below.setCell (Below.setCell (Below.setCell (Below.setCell GX.out (p := ⟨w.heap.size, 0, none⟩) (Nat.le_refl _) (.string ⟨#[]⟩)) (p := ⟨w.heap.size, 1, none⟩) (Nat.le_refl _) (.int .i64 0)) (p := ⟨w.heap.size, 2, none⟩) (Nat.le_refl _) (.int .i64 0)) (p := ⟨w.heap.size, 3, none⟩) (Nat.le_refl _) (.int .i64 0))
        go_wp2_with fail
        generalize ((((w3.setCell ⟨w.heap.size, 0, none⟩ (.string ⟨#[]⟩)).setCell ⟨w.heap.size, 1, none⟩ (.int .i64 0)).setCell ⟨w.heap.size, 2, none⟩ (.int .i64 0)).setCell ⟨w.heap.size, 3, none⟩ (.int .i64 0)) = wf at AF GF ⊢
        have d0 := (blk_cell AF 0 (x := .string ⟨#[]⟩) rfl).1
        have d1 := (blk_cell AF 1 (x := .int .i64 0) rfl).1
        have d2 := (blk_cell AF 2 (x := .int .i64 0) rfl).1
        have d3 := (blk_cell AF 3 (x := .int .i64 0) rfl).1
        refine bodyPost_ret (v := .tuple #[.agg #[.string ⟨#[]⟩, .int .i64 0, .int .i64 0, .int .i64 0], .int .i64 3]) (by simp [results, Tryd.results17, go_sem, d0, d1, d2, d3]) rfl ⟨by rw [HE.out.1, HE.out.2]; rfl, GF⟩
      rcases hz : nB s4 with _ | _
      · have HE : Hid (rdG t = zG ∧ rdC t = 3) := rd_none HLN.out (by rw [HR2.out, hx, hy, hz]; rfl)
        rw [hx] at HN2
        rw [hy] at HN3
        rw [hz] at HN4
        clear hx hy hz HR2
        go_enter Tryd.func17, Tryd.ntmps17
        go_upto_region 3 with fail
        generalize (w.alloc (.cells #[.string ⟨#[]⟩, .int .i64 0, .int .i64 0, .int .i64 0] 24)) = wb at HZ HC ⊢
        go_wp2_with fail
        refine HC.mono ?_
        rintro e w1 ⟨v, rfl, r1, b1⟩
        obtain ⟨b, o, c, rfl, hb, hc, y0, y1, y2, y3, y4⟩ := row5 r1
        have B1 : Hid (Below wb.heap.size wb w1) := b1
        have hcI : (5 : Int) ≤ (c : Int) := by omega
        have q2 : ∀ x, (w1.alloc x).cell? ⟨b, o + 2, none⟩ = some (.string s2) := fun x => ((bel1 w1 x).cell (p := ⟨b, o + 2, none⟩) hb).trans y2
        have q3 : ∀ x, (w1.alloc x).cell? ⟨b, o + 3, none⟩ = some (.string s3) := fun x => ((bel1 w1 x).cell (p := ⟨b, o + 3, none⟩) hb).trans y3
        have q4 : ∀ x, (w1.alloc x).cell? ⟨b, o + 4, none⟩ = some (.string s4) := fun x => ((bel1 w1 x).cell (p := ⟨b, o + 4, none⟩) hb).trans y4
        clear b1 r1 HC y2 y3 y4
        have AX : Hid ((w1.alloc (.cells #[.string s1, .int .i64 (nV s2), .int .i64 (nV s3), .int .i64 (nV s4)] 24)).heap[w.heap.size]? = some (.cells #[.string ⟨#[]⟩, .int .i64 0, .int .i64 0, .int .i64 0] 24 (0, 0))) := ((bel1 w1 _).block _ (by have := (HZ.out _ B1.out).2.2; omega)).trans (HZ.out _ B1.out).1
        have GX : Hid (Below w.heap.size w (w1.alloc (.cells #[.string s1, .int .i64 (nV s2), .int .i64 (nV s3), .int .i64 (nV s4)] 24))) := (HZ.out _ B1.out).2.1.trans ((bel1 w1 _).mono (HZ.out _ B1.out).2.1.size)
        go_upto_region 13 with (first | (go_at_call 39; (first | (with_reducible refine (HN2.out _).mono ?_) | (with_reducible refine (HN3.out _).mono ?_) | (with_reducible refine (HN4.out _).mono ?_)); rintro e w9 ⟨rfl, rfl⟩))
        generalize (w1.alloc (.cells #[.string s1, .int .i64 (nV s2), .int .i64 (nV s3), .int .i64 (nV s4)] 24)) = w3 at AX GX ⊢
        obtain ⟨zc0, zf0⟩ := blk_cell AX.out 0 (x := .string ⟨#[]⟩) rfl
        obtain ⟨zc1, zf1⟩ := blk_cell AX.out 1 (x := .int .i64 0) rfl
        obtain ⟨zc2, zf2⟩ := blk_cell AX.out 2 (x := .int .i64 0) rfl
        obtain ⟨zc3, zf3⟩ := blk_cell AX.out 3 (x := .int .i64 0) rfl
        have AF : ((((w3.setCell ⟨w.heap.size, 0, none⟩ (.string ⟨#[]⟩)).setCell ⟨w.heap.size, 1, none⟩ (.int .i64 0)).setCell ⟨w.heap.size, 2, none⟩ (.int .i64 0)).setCell ⟨w.heap.size, 3, none⟩ (.int .i64 0)).heap[w.heap.size]? = some (.cells #[.string ⟨#[]⟩, .int .i64 0, .int .i64 0, .int .i64 0] 24 (0, 0)) := (blk_set (blk_set (blk_set (blk_set AX.out 0 (.string ⟨#[]⟩)) 1 (.int .i64 0)) 2 (.int .i64 0)) 3 (.int .i64 0))
        have GF : Below w.heap.size w ((((w3.setCell ⟨w.heap.size, 0, none⟩ (.string ⟨#[]⟩)).setCell ⟨w.heap.size, 1, none⟩ (.int .i64 0)).setCell ⟨w.heap.size, 2, none⟩ (.int .i64 0)).setCell ⟨w.heap.size, 3, none⟩ (.int .i64 0)) := (Below.setCell (Below.setCell (Below.setCell (Below.setCell GX.out (p := ⟨w.heap.size, 0, none⟩) (Nat.le_refl _) (.string ⟨#[]⟩)) (p := ⟨w.heap.size, 1, none⟩) (Nat.le_refl _) (.int .i64 0)) (p := ⟨w.heap.size, 2, none⟩) (Nat.le_refl _) (.int .i64 0)) (p := ⟨w.heap.size, 3, none⟩) (Nat.le_refl _) (.int .i64 0))
        go_wp2_with fail
        generalize ((((w3.setCell ⟨w.heap.size, 0, none⟩ (.string ⟨#[]⟩)).setCell ⟨w.heap.size, 1, none⟩ (.int .i64 0)).setCell ⟨w.heap.size, 2, none⟩ (.int .i64 0)).setCell ⟨w.heap.size, 3, none⟩ (.int .i64 0)) = wf at AF GF ⊢
        have d0 := (blk_cell AF 0 (x := .string ⟨#[]⟩) rfl).1
        have d1 := (blk_cell AF 1 (x := .int .i64 0) rfl).1
        have d2 := (blk_cell AF 2 (x := .int .i64 0) rfl).1
        have d3 := (blk_cell AF 3 (x := .int .i64 0) rfl).1
        refine bodyPost_ret (v := .tuple #[.agg #[.string ⟨#[]⟩, .int .i64 0, .int .i64 0, .int .i64 0], .int .i64 3]) (by simp [results, Tryd.results17, go_sem, d0, d1, d2, d3]) rfl ⟨by rw [HE.out.1, HE.out.2]; rfl, GF⟩
      rcases ho : grB (gW s1 s2 s3 s4) with _ | _
      · have HE : Hid (rdG t = zG ∧ rdC t = 3) := rd_none HLN.out (by rw [HR2.out, hx, hy, hz, ho]; rfl)
        rw [hx] at HN2
        rw [hy] at HN3
        rw [hz] at HN4
        rw [ho] at HOK
        clear hx hy hz ho HR2
        go_enter Tryd.func17, Tryd.ntmps17
        go_upto_region 3 with fail
        generalize (w.alloc (.cells #[.string ⟨#[]⟩, .int .i64 0, .int .i64 0, .int .i64 0] 24)) = wb at HZ HC ⊢
        go_wp2_with fail
        refine HC.mono ?_
        rintro e w1 ⟨v, rfl, r1, b1⟩
        obtain ⟨b, o, c, rfl, hb, hc, y0, y1, y2, y3, y4⟩ := row5 r1
        have B1 : Hid (Below wb.heap.size wb w1) := b1
        have hcI : (5 : Int) ≤ (c : Int) := by omega
        have q2 : ∀ x, (w1.alloc x).cell? ⟨b, o + 2, none⟩ = some (.string s2) := fun x => ((bel1 w1 x).cell (p := ⟨b, o + 2, none⟩) hb).trans y2
        have q3 : ∀ x, (w1.alloc x).cell? ⟨b, o + 3, none⟩ = some (.string s3) := fun x => ((bel1 w1 x).cell (p := ⟨b, o + 3, none⟩) hb).trans y3
        have q4 : ∀ x, (w1.alloc x).cell? ⟨b, o + 4, none⟩ = some (.string s4) := fun x => ((bel1 w1 x).cell (p := ⟨b, o + 4, none⟩) hb).trans y4
        clear b1 r1 HC y2 y3 y4
        have HB3 : Hid (∀ W, Below (w1.alloc (.cells #[.string s1, .int .i64 (nV s2), .int .i64 (nV s3), .int .i64 (nV s4)] 24)).heap.size (w1.alloc (.cells #[.string s1, .int .i64 (nV s2), .int .i64 (nV s3), .int .i64 (nV s4)] 24)) W → W.heap[w.heap.size]? = some (.cells #[.string ⟨#[]⟩, .int .i64 0, .int .i64 0, .int .i64 0] 24 (0, 0)) ∧ Below w.heap.size w W ∧ W.heap[w1.heap.size]? = some (.cells #[.string s1, .int .i64 (nV s2), .int .i64 (nV s3), .int .i64 (nV s4)] 24 (0, 0))) := fun W hW => ⟨((hW.block _ (by have := (HZ.out _ B1.out).2.2; simp; omega)).trans ((bel1 w1 _).block _ (by have := (HZ.out _ B1.out).2.2; omega))).trans (HZ.out _ B1.out).1, ((HZ.out _ B1.out).2.1.trans ((bel1 w1 _).mono (HZ.out _ B1.out).2.1.size)).trans (hW.mono (by have := (HZ.out _ B1.out).2.2; simp; omega)), (hW.block _ (by simp)).trans (heap_alloc_new w1 _)⟩
        go_upto_region 13 with (first | (go_at_call 39; (first | (with_reducible refine (HN2.out _).mono ?_) | (with_reducible refine (HN3.out _).mono ?_) | (with_reducible refine (HN4.out _).mono ?_)); rintro e w9 ⟨rfl, rfl⟩))
        generalize (w1.alloc (.cells #[.string s1, .int .i64 (nV s2), .int .i64 (nV s3), .int .i64 (nV s4)] 24)) = w3 at HB3 ⊢
        obtain ⟨_, _, a3⟩ := HB3.out w3 (Below.refl _ _)
        have k0 := (blk_cell a3 0 (x := .string s1) rfl).1
        have k1 := (blk_cell a3 1 (x := .int .i64 (nV s2)) rfl).1
        have k2 := (blk_cell a3 2 (x := .int .i64 (nV s3)) rfl).1
        have k3 := (blk_cell a3 3 (x := .int .i64 (nV s4)) rfl).1
        go_wp2_with fail
        refine (HOK.out _).mono ?_
        rintro e w4 ⟨rfl, b4⟩
        obtain ⟨ax, gx, a4⟩ := HB3.out w4 b4
        have AX : Hid (w4.heap[w.heap.size]? = some (.cells #[.string ⟨#[]⟩, .int .i64 0, .int .i64 0, .int .i64 0] 24 (0, 0))) := ax
        have GX : Hid (Below w.heap.size w w4) := gx
        clear b4 ax gx a3 k0 k1 k2 k3
        obtain ⟨zc0, zf0⟩ := blk_cell AX.out 0 (x := .string ⟨#[]⟩) rfl
        obtain ⟨zc1, zf1⟩ := blk_cell AX.out 1 (x := .int .i64 0) rfl
        obtain ⟨zc2, zf2⟩ := blk_cell AX.out 2 (x := .int .i64 0) rfl
        obtain ⟨zc3, zf3⟩ := blk_cell AX.out 3 (x := .int .i64 0) rfl
        have AF : ((((w4.setCell ⟨w.heap.size, 0, none⟩ (.string ⟨#[]⟩)).setCell ⟨w.heap.size, 1, none⟩ (.int .i64 0)).setCell ⟨w.heap.size, 2, none⟩ (.int .i64 0)).setCell ⟨w.heap.size, 3, none⟩ (.int .i64 0)).heap[w.heap.size]? = some (.cells #[.string ⟨#[]⟩, .int .i64 0, .int .i64 0, .int .i64 0] 24 (0, 0)) := (blk_set (blk_set (blk_set (blk_set AX.out 0 (.string ⟨#[]⟩)) 1 (.int .i64 0)) 2 (.int .i64 0)) 3 (.int .i64 0))
        have GF : Below w.heap.size w ((((w4.setCell ⟨w.heap.size, 0, none⟩ (.string ⟨#[]⟩)).setCell ⟨w.heap.size, 1, none⟩ (.int .i64 0)).setCell ⟨w.heap.size, 2, none⟩ (.int .i64 0)).setCell ⟨w.heap.size, 3, none⟩ (.int .i64 0)) := (Below.setCell (Below.setCell (Below.setCell (Below.setCell GX.out (p := ⟨w.heap.size, 0, none⟩) (Nat.le_refl _) (.string ⟨#[]⟩)) (p := ⟨w.heap.size, 1, none⟩) (Nat.le_refl _) (.int .i64 0)) (p := ⟨w.heap.size, 2, none⟩) (Nat.le_refl _) (.int .i64 0)) (p := ⟨w.heap.size, 3, none⟩) (Nat.le_refl _) (.int .i64 0))
        go_wp2_with fail
        generalize ((((w4.setCell ⟨w.heap.size, 0, none⟩ (.string ⟨#[]⟩)).setCell ⟨w.heap.size, 1, none⟩ (.int .i64 0)).setCell ⟨w.heap.size, 2, none⟩ (.int .i64 0)).setCell ⟨w.heap.size, 3, none⟩ (.int .i64 0)) = wf at AF GF ⊢
        have d0 := (blk_cell AF 0 (x := .string ⟨#[]⟩) rfl).1
        have d1 := (blk_cell AF 1 (x := .int .i64 0) rfl).1
        have d2 := (blk_cell AF 2 (x := .int .i64 0) rfl).1
        have d3 := (blk_cell AF 3 (x := .int .i64 0) rfl).1
        refine bodyPost_ret (v := .tuple #[.agg #[.string ⟨#[]⟩, .int .i64 0, .int .i64 0, .int .i64 0], .int .i64 3]) (by simp [results, Tryd.results17, go_sem, d0, d1, d2, d3]) rfl ⟨by rw [HE.out.1, HE.out.2]; rfl, GF⟩
      · have HE : Hid (rdG t = gW s1 s2 s3 s4 ∧ rdC t = 0) := rd_some HLN.out (by rw [HR2.out, hx, hy, hz, ho]; rfl)
        rw [hx] at HN2
        rw [hy] at HN3
        rw [hz] at HN4
        rw [ho] at HOK
        clear hx hy hz ho HR2
        go_enter Tryd.func17, Tryd.ntmps17
        go_upto_region 3 with fail
        generalize (w.alloc (.cells #[.string ⟨#[]⟩, .int .i64 0, .int .i64 0, .int .i64 0] 24)) = wb at HZ HC ⊢
        go_wp2_with fail
        refine HC.mono ?_
        rintro e w1 ⟨v, rfl, r1, b1⟩
        obtain ⟨b, o, c, rfl, hb, hc, y0, y1, y2, y3, y4⟩ := row5 r1
        have B1 : Hid (Below wb.heap.size wb w1) := b1
        have hcI : (5 : Int) ≤ (c : Int) := by omega
        have q2 : ∀ x, (w1.alloc x).cell? ⟨b, o + 2, none⟩ = some (.string s2) := fun x => ((bel1 w1 x).cell (p := ⟨b, o + 2, none⟩) hb).trans y2
        have q3 : ∀ x, (w1.alloc x).cell? ⟨b, o + 3, none⟩ = some (.string s3) := fun x => ((bel1 w1 x).cell (p := ⟨b, o + 3, none⟩) hb).trans y3
        have q4 : ∀ x, (w1.alloc x).cell? ⟨b, o + 4, none⟩ = some (.string s4) := fun x => ((bel1 w1 x).cell (p := ⟨b, o + 4, none⟩) hb).trans y4
        clear b1 r1 HC y2 y3 y4
        have HB3 : Hid (∀ W, Below (w1.alloc (.cells #[.string s1, .int .i64 (nV s2), .int .i64 (nV s3), .int .i64 (nV s4)] 24)).heap.size (w1.alloc (.cells #[.string s1, .int .i64 (nV s2), .int .i64 (nV s3), .int .i64 (nV s4)] 24)) W → W.heap[w.heap.size]? = some (.cells #[.string ⟨#[]⟩, .int .i64 0, .int .i64 0, .int .i64 0] 24 (0, 0)) ∧ Below w.heap.size w W ∧ W.heap[w1.heap.size]? = some (.cells #[.string s1, .int .i64 (nV s2), .int .i64 (nV s3), .int .i64 (nV s4)] 24 (0, 0))) := fun W hW => ⟨((hW.block _ (by have := (HZ.out _ B1.out).2.2; simp; omega)).trans ((bel1 w1 _).block _ (by have := (HZ.out _ B1.out).2.2; omega))).trans (HZ.out _ B1.out).1, ((HZ.out _ B1.out).2.1.trans ((bel1 w1 _).mono (HZ.out _ B1.out).2.1.size)).trans (hW.mono (by have := (HZ.out _ B1.out).2.2; simp; omega)), (hW.block _ (by simp)).trans (heap_alloc_new w1 _)⟩
        go_upto_region 13 with (first | (go_at_call 39; (first | (with_reducible refine (HN2.out _).mono ?_) | (with_reducible refine (HN3.out _).mono ?_) | (with_reducible refine (HN4.out _).mono ?_)); rintro e w9 ⟨rfl, rfl⟩))
        generalize (w1.alloc (.cells #[.string s1, .int .i64 (nV s2), .int .i64 (nV s3), .int .i64 (nV s4)] 24)) = w3 at HB3 ⊢
        obtain ⟨_, _, a3⟩ := HB3.out w3 (Below.refl _ _)
        have k0 := (blk_cell a3 0 (x := .string s1) rfl).1
        have k1 := (blk_cell a3 1 (x := .int .i64 (nV s2)) rfl).1
        have k2 := (blk_cell a3 2 (x := .int .i64 (nV s3)) rfl).1
        have k3 := (blk_cell a3 3 (x := .int .i64 (nV s4)) rfl).1
        go_wp2_with fail
        refine (HOK.out _).mono ?_
        rintro e w4 ⟨rfl, b4⟩
        obtain ⟨ax, gx, a4⟩ := HB3.out w4 b4
        have AX : Hid (w4.heap[w.heap.size]? = some (.cells #[.string ⟨#[]⟩, .int .i64 0, .int .i64 0, .int .i64 0] 24 (0, 0))) := ax
        have GX : Hid (Below w.heap.size w w4) := gx
        clear b4 ax gx a3 k0 k1 k2 k3
        have k0 := (blk_cell a4 0 (x := .string s1) rfl).1
        have k1 := (blk_cell a4 1 (x := .int .i64 (nV s2)) rfl).1
        have k2 := (blk_cell a4 2 (x := .int .i64 (nV s3)) rfl).1
        have k3 := (blk_cell a4 3 (x := .int .i64 (nV s4)) rfl).1
        obtain ⟨zc0, zf0⟩ := blk_cell AX.out 0 (x := .string ⟨#[]⟩) rfl
        obtain ⟨zc1, zf1⟩ := blk_cell AX.out 1 (x := .int .i64 0) rfl
        obtain ⟨zc2, zf2⟩ := blk_cell AX.out 2 (x := .int .i64 0) rfl
        obtain ⟨zc3, zf3⟩ := blk_cell AX.out 3 (x := .int .i64 0) rfl
        have AF : ((((w4.setCell ⟨w.heap.size, 0, none⟩ (.string s1)).setCell ⟨w.heap.size, 1, none⟩ (.int .i64 (nV s2))).setCell ⟨w.heap.size, 2, none⟩ (.int .i64 (nV s3))).setCell ⟨w.heap.size, 3, none⟩ (.int .i64 (nV s4))).heap[w.heap.size]? = some (.cells #[.string s1, .int .i64 (nV s2), .int .i64 (nV s3), .int .i64 (nV s4)] 24 (0, 0)) := (blk_set (blk_set (blk_set (blk_set AX.out 0 (.string s1)) 1 (.int .i64 (nV s2))) 2 (.int .i64 (nV s3))) 3 (.int .i64 (nV s4)))
        have GF : Below w.heap.size w ((((w4.setCell ⟨w.heap.size, 0, none⟩ (.string s1)).setCell ⟨w.heap.size, 1, none⟩ (.int .i64 (nV s2))).setCell ⟨w.heap.size, 2, none⟩ (.int .i64 (nV s3))).setCell ⟨w.heap.size, 3, none⟩ (.int .i64 (nV s4))) := (Below.setCell (Below.setCell (Below.setCell (Below.setCell GX.out (p := ⟨w.heap.size, 0, none⟩) (Nat.le_refl _) (.string s1)) (p := ⟨w.heap.size, 1, none⟩) (Nat.le_refl _) (.int .i64 (nV s2))) (p := ⟨w.heap.size, 2, none⟩) (Nat.le_refl _) (.int .i64 (nV s3))) (p := ⟨w.heap.size, 3, none⟩) (Nat.le_refl _) (.int .i64 (nV s4)))
        go_wp2_with fail
        generalize ((((w4.setCell ⟨w.heap.size, 0, none⟩ (.string s1)).setCell ⟨w.heap.size, 1, none⟩ (.int .i64 (nV s2))).setCell ⟨w.heap.size, 2, none⟩ (.int .i64 (nV s3))).setCell ⟨w.heap.size, 3, none⟩ (.int .i64 (nV s4))) = wf at AF GF ⊢
        have d0 := (blk_cell AF 0 (x := .string s1) rfl).1
        have d1 := (blk_cell AF 1 (x := .int .i64 (nV s2)) rfl).1
        have d2 := (blk_cell AF 2 (x := .int .i64 (nV s3)) rfl).1
        have d3 := (blk_cell AF 3 (x := .int .i64 (nV s4)) rfl).1
        refine bodyPost_ret (v := .tuple #[.agg #[.string s1, .int .i64 (nV s2), .int .i64 (nV s3), .int .i64 (nV s4)], .int .i64 0]) (by simp [results, Tryd.results17, go_sem, d0, d1, d2, d3]) rfl ⟨by rw [HE.out.1, HE.out.2]; rfl, GF⟩
    · have hw' : (s0.toList == [103, 114, 97, 110, 116]) = false := by
        rw [beq_eq_false_iff_ne, ByteArray.toList_eq]; exact hw
      have HE : Hid (rdG t = zG ∧ rdC t = 3) := rd_none HLN.out (by rw [HR.out, if_neg hw])
      clear hw HR
      go_enter Tryd.func17, Tryd.ntmps17
      go_upto_region 3 with fail
      generalize (w.alloc (.cells #[.string ⟨#[]⟩, .int .i64 0, .int .i64 0, .int .i64 0] 24)) = wb at HZ HC ⊢
      go_wp2_with fail
      refine HC.mono ?_
      rintro e w1 ⟨v, rfl, r1, b1⟩
      obtain ⟨b, o, c, rfl, hb, hc, y0, y1, y2, y3, y4⟩ := row5 r1
      have AX : Hid (w1.heap[w.heap.size]? = some (.cells #[.string ⟨#[]⟩, .int .i64 0, .int .i64 0, .int .i64 0] 24 (0, 0))) := (HZ.out _ b1).1
      have GX : Hid (Below w.heap.size w w1) := (HZ.out _ b1).2.1
      clear b1 r1 HC
      obtain ⟨zc0, zf0⟩ := blk_cell AX.out 0 (x := .string ⟨#[]⟩) rfl
      obtain ⟨zc1, zf1⟩ := blk_cell AX.out 1 (x := .int .i64 0) rfl
      obtain ⟨zc2, zf2⟩ := blk_cell AX.out 2 (x := .int .i64 0) rfl
      obtain ⟨zc3, zf3⟩ := blk_cell AX.out 3 (x := .int .i64 0) rfl
      have AF : ((((w1.setCell ⟨w.heap.size, 0, none⟩ (.string ⟨#[]⟩)).setCell ⟨w.heap.size, 1, none⟩ (.int .i64 0)).setCell ⟨w.heap.size, 2, none⟩ (.int .i64 0)).setCell ⟨w.heap.size, 3, none⟩ (.int .i64 0)).heap[w.heap.size]? = some (.cells #[.string ⟨#[]⟩, .int .i64 0, .int .i64 0, .int .i64 0] 24 (0, 0)) := (blk_set (blk_set (blk_set (blk_set AX.out 0 (.string ⟨#[]⟩)) 1 (.int .i64 0)) 2 (.int .i64 0)) 3 (.int .i64 0))
      have GF : Below w.heap.size w ((((w1.setCell ⟨w.heap.size, 0, none⟩ (.string ⟨#[]⟩)).setCell ⟨w.heap.size, 1, none⟩ (.int .i64 0)).setCell ⟨w.heap.size, 2, none⟩ (.int .i64 0)).setCell ⟨w.heap.size, 3, none⟩ (.int .i64 0)) := (Below.setCell (Below.setCell (Below.setCell (Below.setCell GX.out (p := ⟨w.heap.size, 0, none⟩) (Nat.le_refl _) (.string ⟨#[]⟩)) (p := ⟨w.heap.size, 1, none⟩) (Nat.le_refl _) (.int .i64 0)) (p := ⟨w.heap.size, 2, none⟩) (Nat.le_refl _) (.int .i64 0)) (p := ⟨w.heap.size, 3, none⟩) (Nat.le_refl _) (.int .i64 0))
      go_wp2_with fail
      generalize ((((w1.setCell ⟨w.heap.size, 0, none⟩ (.string ⟨#[]⟩)).setCell ⟨w.heap.size, 1, none⟩ (.int .i64 0)).setCell ⟨w.heap.size, 2, none⟩ (.int .i64 0)).setCell ⟨w.heap.size, 3, none⟩ (.int .i64 0)) = wf at AF GF ⊢
      have d0 := (blk_cell AF 0 (x := .string ⟨#[]⟩) rfl).1
      have d1 := (blk_cell AF 1 (x := .int .i64 0) rfl).1
      have d2 := (blk_cell AF 2 (x := .int .i64 0) rfl).1
      have d3 := (blk_cell AF 3 (x := .int .i64 0) rfl).1
      refine bodyPost_ret (v := .tuple #[.agg #[.string ⟨#[]⟩, .int .i64 0, .int .i64 0, .int .i64 0], .int .i64 3]) (by simp [results, Tryd.results17, go_sem, d0, d1, d2, d3]) rfl ⟨by rw [HE.out.1, HE.out.2]; rfl, GF⟩
  · have HE : Hid (rdG t = zG ∧ rdC t = 3) := rd_none HLN.out (rsp_len h5)
    obtain ⟨n5, HN5⟩ : ∃ n5, Hid ((cutS t).length = n5) := ⟨_, rfl⟩
    have h5' : ((n5 : Int) != 5) = true := by rw [bne_iff_ne]; rw [HN5.out] at h5; omega
    clear h5
    go_enter Tryd.func17, Tryd.ntmps17
    go_upto_region 3 with fail
    generalize (w.alloc (.cells #[.string ⟨#[]⟩, .int .i64 0, .int .i64 0, .int .i64 0] 24)) = wb at HZ HC ⊢
    go_wp2_with fail
    refine HC.mono ?_
    rintro e w1 ⟨v, rfl, r1, b1⟩
    obtain ⟨a, c, rfl, _⟩ := r1
    rw [HN5.out]
    have AX : Hid (w1.heap[w.heap.size]? = some (.cells #[.string ⟨#[]⟩, .int .i64 0, .int .i64 0, .int .i64 0] 24 (0, 0))) := (HZ.out _ b1).1
    have GX : Hid (Below w.heap.size w w1) := (HZ.out _ b1).2.1
    clear b1 HC
    obtain ⟨zc0, zf0⟩ := blk_cell AX.out 0 (x := .string ⟨#[]⟩) rfl
    obtain ⟨zc1, zf1⟩ := blk_cell AX.out 1 (x := .int .i64 0) rfl
    obtain ⟨zc2, zf2⟩ := blk_cell AX.out 2 (x := .int .i64 0) rfl
    obtain ⟨zc3, zf3⟩ := blk_cell AX.out 3 (x := .int .i64 0) rfl
    have AF : ((((w1.setCell ⟨w.heap.size, 0, none⟩ (.string ⟨#[]⟩)).setCell ⟨w.heap.size, 1, none⟩ (.int .i64 0)).setCell ⟨w.heap.size, 2, none⟩ (.int .i64 0)).setCell ⟨w.heap.size, 3, none⟩ (.int .i64 0)).heap[w.heap.size]? = some (.cells #[.string ⟨#[]⟩, .int .i64 0, .int .i64 0, .int .i64 0] 24 (0, 0)) := (blk_set (blk_set (blk_set (blk_set AX.out 0 (.string ⟨#[]⟩)) 1 (.int .i64 0)) 2 (.int .i64 0)) 3 (.int .i64 0))
    have GF : Below w.heap.size w ((((w1.setCell ⟨w.heap.size, 0, none⟩ (.string ⟨#[]⟩)).setCell ⟨w.heap.size, 1, none⟩ (.int .i64 0)).setCell ⟨w.heap.size, 2, none⟩ (.int .i64 0)).setCell ⟨w.heap.size, 3, none⟩ (.int .i64 0)) := (Below.setCell (Below.setCell (Below.setCell (Below.setCell GX.out (p := ⟨w.heap.size, 0, none⟩) (Nat.le_refl _) (.string ⟨#[]⟩)) (p := ⟨w.heap.size, 1, none⟩) (Nat.le_refl _) (.int .i64 0)) (p := ⟨w.heap.size, 2, none⟩) (Nat.le_refl _) (.int .i64 0)) (p := ⟨w.heap.size, 3, none⟩) (Nat.le_refl _) (.int .i64 0))
    go_wp2_with fail
    generalize ((((w1.setCell ⟨w.heap.size, 0, none⟩ (.string ⟨#[]⟩)).setCell ⟨w.heap.size, 1, none⟩ (.int .i64 0)).setCell ⟨w.heap.size, 2, none⟩ (.int .i64 0)).setCell ⟨w.heap.size, 3, none⟩ (.int .i64 0)) = wf at AF GF ⊢
    have d0 := (blk_cell AF 0 (x := .string ⟨#[]⟩) rfl).1
    have d1 := (blk_cell AF 1 (x := .int .i64 0) rfl).1
    have d2 := (blk_cell AF 2 (x := .int .i64 0) rfl).1
    have d3 := (blk_cell AF 3 (x := .int .i64 0) rfl).1
    refine bodyPost_ret (v := .tuple #[.agg #[.string ⟨#[]⟩, .int .i64 0, .int .i64 0, .int .i64 0], .int .i64 3]) (by simp [results, Tryd.results17, go_sem, d0, d1, d2, d3]) rfl ⟨by rw [HE.out.1, HE.out.2]; rfl, GF⟩
end Go.Proofs.YtimmeclclilpdaaDoor.Gr12
