/- Texts put together: Of, SpReq, RdReq, EqReq. -/
import Derived.Test.YtdeologdmdimoaaTakeReq
import Derived.Deep.RegionWith
import Derived.BigQuiet
import Derived.Test.YtdeologdmdimoaaQt
import Derived.Deep.CutRange
import Derived.Deep.DeepCutAuto
import Derived.Test.YtdeologdmdimoaaMsg2
/- The specification's numbers out of texts. -/
namespace Go.Proofs.Ytdeologdmdimoaa.Of
open Go.RowKit Go.Proofs.Ytdeologdmdimoaa.Sl Go.Proofs.Ytdeologdmdimoaa.By Go.Proofs.Ytdeologdmdimoaa.Ap Go.Proofs.Ytdeologdmdimoaa.Rq Go.Proofs.Ytdeologdmdimoaa.Rr

theorem bys_at (s : ByteArray) (i : Nat) (h : i < s.size) : nth (bys s) i = ((s[i]'h).toNat : Int) := by
  unfold nth bys
  have h' : i < s.data.toList.length := by simpa using h
  rw [List.getD_eq_getElem?_getD, List.getElem?_map, List.getElem?_eq_getElem h']
  rfl

set_option maxHeartbeats 400000 in
theorem l02Of_any (s : ByteArray) (w : World) (hs : s.size ≤ 4) :
    Calls Try.prog 85 #[.string s] w fun e w' => e = .returned (.int .i64 (beN (bys s))) ∧ w' = w := by
  have HS : Hid (s.size ≤ 4) := hs
  have hs4 : (s.size : Int) ≤ 4 := by omega
  clear hs
  go_enter Try.func85, Try.ntmps85
  go_wp2_with fail
  go_loop [3, 4] (fun n i => ∃ k : Nat, k ≤ s.size ∧ i = .int .i64 k ∧ n = .int .i64 (beN ((bys s).take k))) (fun _ i => s.size - (intOf i).toNat)
  case atStart => exact ⟨0, by omega, rfl, rfl⟩
  case round =>
    obtain ⟨k, hk, rfl, rfl⟩ := hrel
    by_cases hlt : k < s.size
    · have hb := (s[k]'hlt).toNat_lt
      have HM : Hid (beN ((bys s).take (k + 1)) = beN ((bys s).take k) * 256 + ((s[k]'hlt).toNat : Int)) := by show _ = _; rw [take_succ_nth (by rw [bys_length]; exact hlt), beN_snoc, bys_at s k hlt]
      have hbn := beN_range ((bys s).take k) (fun x hx => bys_range s x (List.mem_of_mem_take hx))
      have hb2 : beN ((bys s).take k) < 16777216 := by
        have : (256 : Int) ^ ((bys s).take k).length ≤ 256 ^ 3 := by
          have h3 : ((bys s).take k).length ≤ 3 := by rw [List.length_take, bys_length]; have := HS.out; omega
          generalize ((bys s).take k).length = q at h3
          match q, h3 with
          | 0, _ => decide
          | 1, _ => decide
          | 2, _ => decide
          | 3, _ => decide
        have e : (256 : Int) ^ 3 = 16777216 := rfl
        omega
      generalize beN ((bys s).take k) = m at hbn hb2 HM
      have hb0 := hbn.1
      clear hbn
      go_wp2
      go_round
      case rel => exact ⟨k + 1, by omega, by go_num, val_eq (by rw [HM.out])⟩
      case measure => simp [intOf]; omega
    · have HK : Hid (k = s.size) := by show _ = _; omega
      go_wp2
      go_ret
      refine ⟨?_, rfl⟩
      rw [HK.out, List.take_of_length_le (by rw [bys_length]; exact Nat.le_refl _)]
      rfl
end Go.Proofs.Ytdeologdmdimoaa.Of

/- The specification's ReadRequest. -/
namespace Go.Proofs.Ytdeologdmdimoaa.Of
open Go.RowKit Go.Proofs.Ytdeologdmdimoaa.Sl Go.Proofs.Ytdeologdmdimoaa.By Go.Proofs.Ytdeologdmdimoaa.Ap Go.Proofs.Ytdeologdmdimoaa.Rq Go.Proofs.Ytdeologdmdimoaa.Rr

theorem ext_size (s : ByteArray) (a b : Nat) : (s.extract a b).size = min b s.size - a := by simp [ByteArray.size_extract]
theorem ext_small (s : ByteArray) (a b : Nat) (h : b ≤ a + 4) : (s.extract a b).size ≤ 4 := by rw [ext_size]; omega

/-- The request that a text tells, as the specification reads it. -/
def sC (s : ByteArray) : Int := nth (bys s) 0
def sS (s : ByteArray) : Int := beN (bys (s.extract 1 3))
def sK (s : ByteArray) : Int := nth (bys s) 3
def sL (s : ByteArray) : Int := beN (bys (s.extract 4 6))
def sN (s : ByteArray) : ByteArray := s.extract 7 s.size
theorem wrap_small (n : Nat) (h : n < 2 ^ 8) : IntKind.i64.wrap (n : Int) = (n : Int) := by rw [IntKind.wrap_i64]; omega
theorem fin3 {w : World} {A B : Array Value} (h : A = B) : ((w.alloc (.cells zreq 44)).alloc (.cells A 44)).drew.heap[w.heap.size]? = some (.cells zreq 44 (0, 0)) ∧
    ((w.alloc (.cells zreq 44)).alloc (.cells A 44)).drew.heap[w.heap.size + 1]? = some (.cells B 44 (0, 0)) ∧ Below w.heap.size w ((w.alloc (.cells zreq 44)).alloc (.cells A 44)).drew := by
  subst h
  refine ⟨(Below.heap_alloc _ _ _ (by simp)).trans (blk_new _ _ _), ?_, (((Below.refl _ _).alloc (Nat.le_refl _) _).alloc (by simp) _).drew⟩
  have := blk_new (w.alloc (.cells zreq 44)) A 44
  rw [size_new] at this
  exact this
set_option maxRecDepth 100000 in
set_option maxHeartbeats 1600000 in
theorem l02ReadRequest_yes (s : ByteArray) (w : World) (hs : s.size ≤ 65536) (h7 : 6 < s.size) (hq : s.size = 7 + (s[6]'h7).toNat) :
    Calls Try.prog 94 #[.string s] w fun e w' => e = .returned (.tuple #[.agg #[.int .i64 (sC s), .int .i64 (sS s), .int .i64 (sK s), .int .i64 (sL s), .string (sN s)], .bool (reqB (sC s) (sS s) (sK s) (sL s) (sN s))]) ∧ Below w.heap.size w w' := by
  have h6 : (7 : Int) ≤ (s.size : Int) := by omega
  have j3 : (3 : Int) ≤ (s.size : Int) := by omega
  have k3 : (3 : Int) < (s.size : Int) := by omega
  have j6 : (6 : Int) ≤ (s.size : Int) := by omega
  have i0 : 0 < s.size := by omega
  have i3 : 3 < s.size := by omega
  have hb := (s[6]'h7).toNat_lt
  have hne : ((s.size : Int) != (7 : Int) + ((s[6]'h7).toNat : Int)) = false := by simp; omega
  have hs' : (s.size : Int) ≤ 65536 := by omega
  have e1 := ext_small s 1 3 (by decide)
  have e2 := ext_small s 4 6 (by decide)
  have E1 : Hid (∀ _ : Unit, (s.extract 1 3).size ≤ 4) := fun _ => e1
  have E2 : Hid (∀ _ : Unit, (s.extract 4 6).size ≤ 4) := fun _ => e2
  have E3 : Hid (∀ _ : Unit, (sN s).size ≤ maxLen) := fun _ => by unfold sN maxLen; rw [ext_size]; omega
  have HV : Hid ((#[.int .i64 (IntKind.i64.wrap ((s[0]'i0).toNat : Int)), .int .i64 (beN (bys (s.extract 1 3))), .int .i64 (IntKind.i64.wrap ((s[3]'i3).toNat : Int)), .int .i64 (beN (bys (s.extract 4 6))), .string (s.extract 7 s.size)] : Array Value) = #[.int .i64 (sC s), .int .i64 (sS s), .int .i64 (sK s), .int .i64 (sL s), .string (sN s)]) := by
    show _ = _
    have b0 := (s[0]'i0).toNat_lt
    have b3 := (s[3]'i3).toNat_lt
    rw [show sC s = _ from bys_at s 0 i0, show sK s = _ from bys_at s 3 i3, wrap_small _ b0, wrap_small _ b3]
    rfl
  clear hq e1 e2
  go_enter Try.func94, Try.ntmps94
  go_upto_region 3 with fail
  go_cut [4] (fun s4 wx => s4 = .pointer (some ⟨w.heap.size + 1, 0, none⟩) ∧ wx.heap[w.heap.size]? = some (.cells zreq 44 (0, 0)) ∧ wx.heap[w.heap.size + 1]? = some (.cells #[.int .i64 (sC s), .int .i64 (sS s), .int .i64 (sK s), .int .i64 (sL s), .string (sN s)] 44 (0, 0)) ∧ Below w.heap.size w wx)
  case first =>
    refine wp_region_any (by kernel_rfl) ?_
    change wpAny _ _ _ _ _ _ _ (World.drew _)
    refine wpAny_take (i := 0) (v := ?v1) rfl (by kernel_rfl) (by kernel_rfl) (by kernel_rfl) (fun _ _ _ h => h) (Or.inl ⟨by rfl, ?h1⟩) ?r1
    case h1 => intro wz; go_simp; try (with_reducible rfl)
    refine wpAny_take (i := 1) (v := ?v2) rfl (by kernel_rfl) (by kernel_rfl) (by kernel_rfl) (fun _ _ _ h => h) (Or.inl ⟨by rfl, ?h2⟩) ?r2
    case h2 => intro wz; go_simp; try (with_reducible rfl)
    refine wpAny_take (i := 2) (v := ?v3) rfl (by kernel_rfl) (by kernel_rfl) (by kernel_rfl) (fun _ _ _ h => h) (Or.inl ⟨by rfl, ?h3⟩) ?r3
    case h3 => intro wz; go_simp; try (with_reducible rfl)
    refine wpAny_take (i := 3) (v := ?v4) rfl (by kernel_rfl) (by kernel_rfl) (by kernel_rfl) (fun _ _ _ h => h) (Or.inl ⟨by rfl, ?h4⟩) ?r4
    case h4 => intro wz; go_simp; try (with_reducible rfl)
    refine wpAny_take (i := 4) (v := ?v5) rfl (by kernel_rfl) (by kernel_rfl) (by kernel_rfl) (fun _ _ _ h => h) (Or.inl ⟨by rfl, ?h5⟩) ?r5
    case h5 => intro wz; go_simp; try (with_reducible rfl)
    refine wpAny_take (i := 6) (v := ?v6) rfl (by kernel_rfl) (by kernel_rfl) (by kernel_rfl) (fun _ _ _ h => h) (Or.inl ⟨by rfl, ?h6⟩) ?r6
    case h6 => intro wz; go_simp; try (with_reducible rfl)
    refine wpAny_take (i := 7) (v := ?v7) rfl (by kernel_rfl) (by kernel_rfl) (by kernel_rfl) (fun _ _ _ h => h) (Or.inl ⟨by rfl, ?h7⟩) ?r7
    case h7 => intro wz; go_simp; try (with_reducible rfl)
    refine wpAny_take (i := 8) (v := ?v8) rfl (by kernel_rfl) (by kernel_rfl) (by kernel_rfl) (fun _ _ _ h => h) (Or.inl ⟨by rfl, ?h8⟩) ?r8
    case h8 => intro wz; go_simp; try (with_reducible rfl)
    refine wpAny_take (i := 9) (v := ?v9) rfl (by kernel_rfl) (by kernel_rfl) (by kernel_rfl) (fun _ _ _ h => h) (Or.inl ⟨by rfl, ?h9⟩) ?r9
    case h9 => intro wz; go_simp; try (with_reducible rfl)
    refine wpAny_take (i := 10) (v := ?v10) rfl (by kernel_rfl) (by kernel_rfl) (by kernel_rfl) (fun _ _ _ h => h) (Or.inl ⟨by rfl, ?h10⟩) ?r10
    case h10 => intro wz; go_simp; try (with_reducible rfl)
    refine wpAny_take (i := 12) (v := ?v11) rfl (by kernel_rfl) (by kernel_rfl) (by kernel_rfl) (fun _ _ _ h => h) (Or.inl ⟨by rfl, ?h11⟩) ?r11
    case h11 => intro wz; go_simp; try (with_reducible rfl)
    refine wpAny_take (i := 13) (v := ?v12) rfl (by kernel_rfl) (by kernel_rfl) (by kernel_rfl) (fun _ _ _ h => h) (Or.inl ⟨by rfl, ?h12⟩) ?r12
    case h12 => intro wz; go_simp; try (with_reducible rfl)
    refine wpAny_ready (rs := [5, 15]) (by kernel_rfl) (by simp) ?_
    refine AllReady.cons rfl (fun K hK => ?_) ?_
    · go_simp
      refine (l02Of_any (s.extract 1 3) _ (E1.out ())).mono ?_
      rintro e w' ⟨rfl, rfl⟩
      refine hK _ _ ?_
      clear hK K
      refine wpAny_ready (rs := [11, 15]) (by kernel_rfl) (by simp) ?_
      refine AllReady.cons rfl (fun K hK => ?_) ?_
      · go_simp
        refine (l02Of_any (s.extract 4 6) _ (E2.out ())).mono ?_
        rintro e w' ⟨rfl, rfl⟩
        refine hK _ _ ?_
        clear hK K
        refine wpAny_take (i := 14) (v := ?v13) rfl (by kernel_rfl) (by kernel_rfl) (by kernel_rfl) (fun _ _ _ h => h) (Or.inl ⟨by rfl, ?h13⟩) ?r13
        case h13 => intro wz; go_simp; try (with_reducible rfl)
        refine wpAny_ready (rs := [15]) (by kernel_rfl) (by simp) ?_
        refine AllReady.cons rfl (fun K hK => ?_) AllReady.nil
        go_simp
        refine hK _ _ ?_
        clear hK K
        refine wpAny_ready (rs := [16]) (by kernel_rfl) (by simp) ?_
        refine AllReady.cons rfl (fun K hK => ?_) AllReady.nil
        go_simp
        refine hK _ _ ?_
        clear hK K
        refine wpAny_done (by kernel_rfl) ?_ _
        go_wp2_with fail
        go_meet
        exact ⟨rfl, fin3 HV.out⟩
      refine AllReady.cons rfl (fun K hK => ?_) AllReady.nil
      go_simp
      refine hK _ _ ?_
      clear hK K
      refine wpAny_ready (rs := [11]) (by kernel_rfl) (by simp) ?_
      refine AllReady.cons rfl (fun K hK => ?_) AllReady.nil
      go_simp
      refine (l02Of_any (s.extract 4 6) _ (E2.out ())).mono ?_
      rintro e w' ⟨rfl, rfl⟩
      refine hK _ _ ?_
      clear hK K
      refine wpAny_take (i := 14) (v := ?v14) rfl (by kernel_rfl) (by kernel_rfl) (by kernel_rfl) (fun _ _ _ h => h) (Or.inl ⟨by rfl, ?h14⟩) ?r14
      case h14 => intro wz; go_simp; try (with_reducible rfl)
      refine wpAny_ready (rs := [16]) (by kernel_rfl) (by simp) ?_
      refine AllReady.cons rfl (fun K hK => ?_) AllReady.nil
      go_simp
      refine hK _ _ ?_
      clear hK K
      refine wpAny_done (by kernel_rfl) ?_ _
      go_wp2_with fail
      go_meet
      exact ⟨rfl, fin3 HV.out⟩
    refine AllReady.cons rfl (fun K hK => ?_) AllReady.nil
    go_simp
    refine hK _ _ ?_
    clear hK K
    refine wpAny_ready (rs := [5]) (by kernel_rfl) (by simp) ?_
    refine AllReady.cons rfl (fun K hK => ?_) AllReady.nil
    go_simp
    refine (l02Of_any (s.extract 1 3) _ (E1.out ())).mono ?_
    rintro e w' ⟨rfl, rfl⟩
    refine hK _ _ ?_
    clear hK K
    refine wpAny_ready (rs := [11]) (by kernel_rfl) (by simp) ?_
    refine AllReady.cons rfl (fun K hK => ?_) AllReady.nil
    go_simp
    refine (l02Of_any (s.extract 4 6) _ (E2.out ())).mono ?_
    rintro e w' ⟨rfl, rfl⟩
    refine hK _ _ ?_
    clear hK K
    refine wpAny_take (i := 14) (v := ?v15) rfl (by kernel_rfl) (by kernel_rfl) (by kernel_rfl) (fun _ _ _ h => h) (Or.inl ⟨by rfl, ?h15⟩) ?r15
    case h15 => intro wz; go_simp; try (with_reducible rfl)
    refine wpAny_ready (rs := [16]) (by kernel_rfl) (by simp) ?_
    refine AllReady.cons rfl (fun K hK => ?_) AllReady.nil
    go_simp
    refine hK _ _ ?_
    clear hK K
    refine wpAny_done (by kernel_rfl) ?_ _
    go_wp2_with fail
    go_meet
    exact ⟨rfl, fin3 HV.out⟩
  case rest =>
  obtain ⟨rfl, A1, X1, G1⟩ := hcut
  have xc0 := (blk_cell X1 0 (x := .int .i64 (sC s)) rfl).1; have xc1 := (blk_cell X1 1 (x := .int .i64 (sS s)) rfl).1; have xc2 := (blk_cell X1 2 (x := .int .i64 (sK s)) rfl).1; have xc3 := (blk_cell X1 3 (x := .int .i64 (sL s)) rfl).1; have xc4 := (blk_cell X1 4 (x := .string (sN s)) rfl).1
  clear j3 k3 j6 i0 i3 hb hne h6 hs' HV
  go_upto_region 4 with fail
  have A1d : wc.drew.heap[w.heap.size]? = some (.cells zreq 44 (0, 0)) := A1
  have X1d : wc.drew.heap[w.heap.size + 1]? = some (.cells #[.int .i64 (sC s), .int .i64 (sS s), .int .i64 (sK s), .int .i64 (sL s), .string (sN s)] 44 (0, 0)) := X1
  have hd1 : w.heap.size + 1 < wc.drew.heap.size := (Array.getElem?_eq_some_iff.1 X1d).1
  have G1d : Below w.heap.size w wc.drew := G1.drew
  have HA1 : Hid (_ ∧ _ ∧ _ ∧ _) := ⟨A1d, X1d, hd1, G1d⟩
  clear A1d X1d hd1 G1d A1 X1 G1
  go_region_with (go_at_call 58; refine (specRequestOK_any (sC s) (sS s) (sK s) (sL s) (sN s) _ (E3.out ())).mono ?_; rintro e w6 ⟨rfl, b6⟩; have A6 := (b6.block w.heap.size (Nat.lt_of_succ_lt HA1.out.2.2.1)).trans HA1.out.1; have X6 := (b6.block (w.heap.size + 1) HA1.out.2.2.1).trans HA1.out.2.1; have G6 : Below w.heap.size w w6 := HA1.out.2.2.2.trans (b6.mono HA1.out.2.2.2.size); clear b6; obtain ⟨zc0, zf0⟩ := blk_cell A6 0 (x := .int .i64 0) rfl; obtain ⟨zc1, zf1⟩ := blk_cell A6 1 (x := .int .i64 0) rfl; obtain ⟨zc2, zf2⟩ := blk_cell A6 2 (x := .int .i64 0) rfl; obtain ⟨zc3, zf3⟩ := blk_cell A6 3 (x := .int .i64 0) rfl; obtain ⟨zc4, zf4⟩ := blk_cell A6 4 (x := .string ⟨#[]⟩) rfl; have yc0 := (blk_cell X6 0 (x := .int .i64 (sC s)) rfl).1; have yc1 := (blk_cell X6 1 (x := .int .i64 (sS s)) rfl).1; have yc2 := (blk_cell X6 2 (x := .int .i64 (sK s)) rfl).1; have yc3 := (blk_cell X6 3 (x := .int .i64 (sL s)) rfl).1; have yc4 := (blk_cell X6 4 (x := .string (sN s)) rfl).1)
  all_goals
    have AF : (((((w6.setCell ⟨w.heap.size, 0, none⟩ (.int .i64 (sC s))).setCell ⟨w.heap.size, 1, none⟩ (.int .i64 (sS s))).setCell ⟨w.heap.size, 2, none⟩ (.int .i64 (sK s))).setCell ⟨w.heap.size, 3, none⟩ (.int .i64 (sL s))).setCell ⟨w.heap.size, 4, none⟩ (.string (sN s))).heap[w.heap.size]? = some (.cells #[.int .i64 (sC s), .int .i64 (sS s), .int .i64 (sK s), .int .i64 (sL s), .string (sN s)] 44 (0, 0)) := (blk_set (blk_set (blk_set (blk_set (blk_set A6 0 (.int .i64 (sC s))) 1 (.int .i64 (sS s))) 2 (.int .i64 (sK s))) 3 (.int .i64 (sL s))) 4 (.string (sN s)))
    have GF : Below w.heap.size w (((((w6.setCell ⟨w.heap.size, 0, none⟩ (.int .i64 (sC s))).setCell ⟨w.heap.size, 1, none⟩ (.int .i64 (sS s))).setCell ⟨w.heap.size, 2, none⟩ (.int .i64 (sK s))).setCell ⟨w.heap.size, 3, none⟩ (.int .i64 (sL s))).setCell ⟨w.heap.size, 4, none⟩ (.string (sN s))) := (Below.setCell (Below.setCell (Below.setCell (Below.setCell (Below.setCell G6 (p := ⟨w.heap.size, 0, none⟩) (Nat.le_refl _) (.int .i64 (sC s))) (p := ⟨w.heap.size, 1, none⟩) (Nat.le_refl _) (.int .i64 (sS s))) (p := ⟨w.heap.size, 2, none⟩) (Nat.le_refl _) (.int .i64 (sK s))) (p := ⟨w.heap.size, 3, none⟩) (Nat.le_refl _) (.int .i64 (sL s))) (p := ⟨w.heap.size, 4, none⟩) (Nat.le_refl _) (.string (sN s)))
    go_wp2_with fail
    generalize (((((w6.setCell ⟨w.heap.size, 0, none⟩ (.int .i64 (sC s))).setCell ⟨w.heap.size, 1, none⟩ (.int .i64 (sS s))).setCell ⟨w.heap.size, 2, none⟩ (.int .i64 (sK s))).setCell ⟨w.heap.size, 3, none⟩ (.int .i64 (sL s))).setCell ⟨w.heap.size, 4, none⟩ (.string (sN s))) = wf at AF GF ⊢
    have d0 := (blk_cell AF 0 (x := .int .i64 (sC s)) rfl).1
    have d1 := (blk_cell AF 1 (x := .int .i64 (sS s)) rfl).1
    have d2 := (blk_cell AF 2 (x := .int .i64 (sK s)) rfl).1
    have d3 := (blk_cell AF 3 (x := .int .i64 (sL s)) rfl).1
    have d4 := (blk_cell AF 4 (x := .string (sN s)) rfl).1
    refine bodyPost_ret (v := .tuple #[.agg #[.int .i64 (sC s), .int .i64 (sS s), .int .i64 (sK s), .int .i64 (sL s), .string (sN s)], .bool (reqB (sC s) (sS s) (sK s) (sL s) (sN s))]) (by simp [results, Try.results94, go_sem, d0, d1, d2, d3, d4]) rfl ⟨rfl, GF⟩

theorem l02ReadRequest_no (s : ByteArray) (w : World) (hs : s.size ≤ 65536) (hno : ∀ h : 6 < s.size, s.size ≠ 7 + (s[6]'h).toNat) :
    Calls Try.prog 94 #[.string s] w fun e w' => e = .returned (.tuple #[.agg zreq, .bool false]) ∧ Below w.heap.size w w' := by
  by_cases h7 : 6 < s.size
  · have hq := hno h7
    have h6 : (7 : Int) ≤ (s.size : Int) := by omega
    have hb := (s[6]'h7).toNat_lt
    have hne : ((s.size : Int) != (7 : Int) + ((s[6]'h7).toNat : Int)) = true := by rw [bne_iff_ne]; omega
    clear hno hq
    go_enter Try.func94, Try.ntmps94
    go_wp2_with fail
    refine bodyPost_ret (v := .tuple #[.agg zreq, .bool false]) (by simp [zreq, results, Try.results94, go_sem]) rfl ⟨rfl, (Below.refl _ _).alloc (Nat.le_refl _) _⟩
  · have h6 : (s.size : Int) < 7 := by omega
    clear hno
    go_enter Try.func94, Try.ntmps94
    go_wp2_with fail
    refine bodyPost_ret (v := .tuple #[.agg zreq, .bool false]) (by simp [zreq, results, Try.results94, go_sem]) rfl ⟨rfl, (Below.refl _ _).alloc (Nat.le_refl _) _⟩
end Go.Proofs.Ytdeologdmdimoaa.Of

/- What is taken is read: impl. -/
namespace Go.Proofs.Ytdeologdmdimoaa.Rr
open Go.RowKit Go.Proofs.Ytdeologdmdimoaa.Sl Go.Proofs.Ytdeologdmdimoaa.By Go.Proofs.Ytdeologdmdimoaa.Ap Go.Proofs.Ytdeologdmdimoaa.Rq Go.Proofs.Ytdeologdmdimoaa.Ms

theorem ret_val {a b : Value} (h : a = b) : Ending.returned a = .returned b := by rw [h]
/-- What a reader answers: too long, no such thing, or the thing. -/
def rjV (z vals : Array Value) (long ok : Bool) : Value := if long then .tuple #[.agg z, .int .i64 2] else if ok then .tuple #[.agg vals, .int .i64 0] else .tuple #[.agg z, .int .i64 3]

set_option maxHeartbeats 800000 in
theorem readJustReq_gen (v : Value) (xs : List Int) (w : World) (h : RowB w v xs) (hl : xs.length ≤ 1048576) (c st k l : Int) (n : ByteArray) (rs : List Int) (sb : Bool) (hn : n.size ≤ maxLen)
    (htake : ∀ (W : World) (p B : Nat), Rdr B W p xs false → B ≤ p → xs.length ≤ 70000 → (∀ x ∈ xs, 0 ≤ x ∧ x ≤ 255) → Calls Try.prog 61 #[.pointer (some ⟨p, 0, none⟩)] W fun e w' => e = .returned (.agg #[.int .i64 c, .int .i64 st, .int .i64 k, .int .i64 l, .string n]) ∧ Rdr B w' p rs sb ∧ W.grownBy w' (some p)) :
    Calls Try.prog 60 #[v, .func (Fn.func 61) #[] #[], .func (Fn.func 21) #[] #[]] w fun e w' => e = .returned (rjV zreq #[.int .i64 c, .int .i64 st, .int .i64 k, .int .i64 l, .string n] (decide (65536 < xs.length)) (!sb && (rs.isEmpty && reqB c st k l n))) ∧ Below w.heap.size w w' := by
  have HT : Hid (_) := htake
  clear htake
  have HU : Hid (RowU w.heap.size w v xs) := RowU.of h
  obtain ⟨a, cap, rfl, _, hr⟩ := h
  by_cases hb : 65536 < xs.length
  · have hb' : (65536 : Int) < (xs.length : Int) := by omega
    have HE : Hid (rjV zreq #[.int .i64 c, .int .i64 st, .int .i64 k, .int .i64 l, .string n] (decide (65536 < xs.length)) (!sb && (rs.isEmpty && reqB c st k l n)) = .tuple #[.agg zreq, .int .i64 2]) := by show _ = _; rw [decide_eq_true hb]; rfl
    go_enter Try.func60, Try.ntmps60
    go_wp2_with fail
    refine bodyPost_ret (v := .tuple #[.agg zreq, .int .i64 2]) (by simp [zreq, results, Try.results60, go_sem]) rfl ⟨ret_val HE.out.symm, ((Below.refl _ _).alloc (Nat.le_refl _) _).alloc (by simp) _⟩
  have hb' : (xs.length : Int) ≤ 65536 := by omega
  have HR : Hid (∀ x ∈ xs, 0 ≤ x ∧ x ≤ 255) := hr
  have HX : Hid (xs.length ≤ 65536) := by show _ ≤ _; omega
  have HNS : Hid (∀ _ : Unit, n.size ≤ maxLen) := fun _ => hn
  have W3s : Hid (((w.alloc (.cells zreq 44)).alloc (.cells zreq 44)).heap.size = w.heap.size + 1 + 1) := by show _ = _; rw [size_new, size_new]
  have H0 : Hid (Rdr w.heap.size (((w.alloc (.cells zreq 44)).alloc (.cells zreq 44)).alloc (.cells #[.slice a xs.length cap, .bool false] 111)) (w.heap.size + 1 + 1) xs false) := by
    refine ⟨_, ?_, HU.out.kept (fun k hk => ?_)⟩
    · have := blk_new ((w.alloc (.cells zreq 44)).alloc (.cells zreq 44)) #[.slice a xs.length cap, .bool false] 111
      rw [W3s.out] at this
      exact this
    · rw [Below.heap_alloc _ _ _ (by simp; omega), Below.heap_alloc _ _ _ (by simp; omega), Below.heap_alloc _ _ _ hk]
  have A0 : Hid ((((w.alloc (.cells zreq 44)).alloc (.cells zreq 44)).alloc (.cells #[.slice a xs.length cap, .bool false] 111)).heap[w.heap.size]? = some (.cells zreq 44 (0, 0))) := ((Below.heap_alloc _ _ _ (by simp; omega)).trans (Below.heap_alloc _ _ _ (by simp))).trans (blk_new _ _ _)
  have B0 : Hid ((((w.alloc (.cells zreq 44)).alloc (.cells zreq 44)).alloc (.cells #[.slice a xs.length cap, .bool false] 111)).heap[w.heap.size + 1]? = some (.cells zreq 44 (0, 0))) := by
    have := blk_new (w.alloc (.cells zreq 44)) zreq 44
    rw [size_new] at this
    exact (Below.heap_alloc _ _ _ (by simp)).trans this
  have G0 : Hid (Below w.heap.size w (((w.alloc (.cells zreq 44)).alloc (.cells zreq 44)).alloc (.cells #[.slice a xs.length cap, .bool false] 111))) := (((Below.refl _ _).alloc (Nat.le_refl _) _).alloc (by simp) _).alloc (by simp; omega) _
  clear hr hl hb HU W3s
  go_enter Try.func60, Try.ntmps60
  go_wp2_with fail
  refine (HT.out _ (w.heap.size + 1 + 1) w.heap.size H0.out (by omega) (by have := HX.out; omega) HR.out).mono ?_
  rintro e w4 ⟨rfl, r4, g4⟩
  have S0 : w.heap.size + 1 + 1 < (((w.alloc (.cells zreq 44)).alloc (.cells zreq 44)).alloc (.cells #[.slice a xs.length cap, .bool false] 111)).heap.size := by rw [size_new, size_new, size_new]; omega
  have G4 : Below w.heap.size w w4 := ⟨g4.os.trans G0.out.os, g4.tape.trans G0.out.tape, g4.output.trans G0.out.output, Nat.le_trans G0.out.size g4.size, fun k hk => (below_kept g4 (by omega) S0 k hk).trans (G0.out.block k hk)⟩
  have hp4 : w.heap.size + 1 + 1 < w4.heap.size := Nat.lt_of_lt_of_le S0 g4.size
  have a4 := blk_kept A0.out g4 (by omega)
  have b4 := blk_kept B0.out g4 (by omega)
  obtain ⟨v4, p4, a', cap', rfl, _, _, _⟩ := r4
  have A5 : (w4.alloc (.cells #[.int .i64 c, .int .i64 st, .int .i64 k, .int .i64 l, .string n] 44)).heap[w.heap.size]? = some (.cells zreq 44 (0, 0)) := (Below.heap_alloc _ _ _ (by omega)).trans a4
  have B5 : (w4.alloc (.cells #[.int .i64 c, .int .i64 st, .int .i64 k, .int .i64 l, .string n] 44)).heap[w.heap.size + 1]? = some (.cells zreq 44 (0, 0)) := (Below.heap_alloc _ _ _ (by omega)).trans b4
  have P5 := (Below.heap_alloc w4 (.cells #[.int .i64 c, .int .i64 st, .int .i64 k, .int .i64 l, .string n] 44) _ hp4).trans p4
  have X5 : (w4.alloc (.cells #[.int .i64 c, .int .i64 st, .int .i64 k, .int .i64 l, .string n] 44)).heap[w4.heap.size]? = some (.cells #[.int .i64 c, .int .i64 st, .int .i64 k, .int .i64 l, .string n] 44 (0, 0)) := blk_new _ _ _
  have G5 : Below w.heap.size w (w4.alloc (.cells #[.int .i64 c, .int .i64 st, .int .i64 k, .int .i64 l, .string n] 44)) := G4.alloc G4.size _
  have HE : Hid (rjV zreq #[.int .i64 c, .int .i64 st, .int .i64 k, .int .i64 l, .string n] (decide (65536 < xs.length)) (!sb && (rs.isEmpty && reqB c st k l n)) = if (!sb && (rs.isEmpty && reqB c st k l n)) then .tuple #[.agg #[.int .i64 c, .int .i64 st, .int .i64 k, .int .i64 l, .string n], .int .i64 0] else .tuple #[.agg zreq, .int .i64 3]) := by show _ = _; rw [decide_eq_false (by have := HX.out; omega)]; rfl
  clear HT g4 H0 A0 B0 G0 S0 a4 b4 p4 G4 hp4
  go_upto_region 6 with fail
  generalize (w4.alloc (.cells #[.int .i64 c, .int .i64 st, .int .i64 k, .int .i64 l, .string n] 44)) = w5 at A5 B5 P5 X5 G5 ⊢
  have hx5 : w4.heap.size < w5.heap.size := (Array.getElem?_eq_some_iff.1 X5).1
  generalize w4.heap.size = x5 at X5 hx5 ⊢
  obtain ⟨p0, _⟩ := blk_cell P5 0 (x := .slice a' (rs).length cap') rfl
  obtain ⟨p1, _⟩ := blk_cell P5 1 (x := .bool (sb)) rfl
  clear P5
  rcases Bool.eq_false_or_eq_true sb with hsb | hsb
  case inl =>
    rw [hsb] at p1
    have HN : Hid (rjV zreq #[.int .i64 c, .int .i64 st, .int .i64 k, .int .i64 l, .string n] (decide (65536 < xs.length)) (!sb && (rs.isEmpty && reqB c st k l n)) = .tuple #[.agg zreq, .int .i64 3]) := by show _ = _; rw [HE.out, hsb]; rfl
    have yc0 := (blk_cell B5 0 (x := .int .i64 0) rfl).1
    have yc1 := (blk_cell B5 1 (x := .int .i64 0) rfl).1
    have yc2 := (blk_cell B5 2 (x := .int .i64 0) rfl).1
    have yc3 := (blk_cell B5 3 (x := .int .i64 0) rfl).1
    have yc4 := (blk_cell B5 4 (x := .string ⟨#[]⟩) rfl).1
    obtain ⟨zc0, zf0⟩ := blk_cell A5 0 (x := .int .i64 0) rfl
    obtain ⟨zc1, zf1⟩ := blk_cell A5 1 (x := .int .i64 0) rfl
    obtain ⟨zc2, zf2⟩ := blk_cell A5 2 (x := .int .i64 0) rfl
    obtain ⟨zc3, zf3⟩ := blk_cell A5 3 (x := .int .i64 0) rfl
    obtain ⟨zc4, zf4⟩ := blk_cell A5 4 (x := .string ⟨#[]⟩) rfl
    clear HE
    have AF : (((((w5.setCell ⟨w.heap.size, 0, none⟩ (.int .i64 0)).setCell ⟨w.heap.size, 1, none⟩ (.int .i64 0)).setCell ⟨w.heap.size, 2, none⟩ (.int .i64 0)).setCell ⟨w.heap.size, 3, none⟩ (.int .i64 0)).setCell ⟨w.heap.size, 4, none⟩ (.string ⟨#[]⟩)).heap[w.heap.size]? = some (.cells #[.int .i64 0, .int .i64 0, .int .i64 0, .int .i64 0, .string ⟨#[]⟩] 44 (0, 0)) := (blk_set (blk_set (blk_set (blk_set (blk_set A5 0 (.int .i64 0)) 1 (.int .i64 0)) 2 (.int .i64 0)) 3 (.int .i64 0)) 4 (.string ⟨#[]⟩))
    have GF : Below w.heap.size w (((((w5.setCell ⟨w.heap.size, 0, none⟩ (.int .i64 0)).setCell ⟨w.heap.size, 1, none⟩ (.int .i64 0)).setCell ⟨w.heap.size, 2, none⟩ (.int .i64 0)).setCell ⟨w.heap.size, 3, none⟩ (.int .i64 0)).setCell ⟨w.heap.size, 4, none⟩ (.string ⟨#[]⟩)) := (Below.setCell (Below.setCell (Below.setCell (Below.setCell (Below.setCell G5 (p := ⟨w.heap.size, 0, none⟩) (Nat.le_refl _) (.int .i64 0)) (p := ⟨w.heap.size, 1, none⟩) (Nat.le_refl _) (.int .i64 0)) (p := ⟨w.heap.size, 2, none⟩) (Nat.le_refl _) (.int .i64 0)) (p := ⟨w.heap.size, 3, none⟩) (Nat.le_refl _) (.int .i64 0)) (p := ⟨w.heap.size, 4, none⟩) (Nat.le_refl _) (.string ⟨#[]⟩))
    go_wp2_with fail
    generalize (((((w5.setCell ⟨w.heap.size, 0, none⟩ (.int .i64 0)).setCell ⟨w.heap.size, 1, none⟩ (.int .i64 0)).setCell ⟨w.heap.size, 2, none⟩ (.int .i64 0)).setCell ⟨w.heap.size, 3, none⟩ (.int .i64 0)).setCell ⟨w.heap.size, 4, none⟩ (.string ⟨#[]⟩)) = wf at AF GF ⊢
    have d0 := (blk_cell AF 0 (x := .int .i64 0) rfl).1
    have d1 := (blk_cell AF 1 (x := .int .i64 0) rfl).1
    have d2 := (blk_cell AF 2 (x := .int .i64 0) rfl).1
    have d3 := (blk_cell AF 3 (x := .int .i64 0) rfl).1
    have d4 := (blk_cell AF 4 (x := .string ⟨#[]⟩) rfl).1
    refine bodyPost_ret (v := .tuple #[.agg #[.int .i64 0, .int .i64 0, .int .i64 0, .int .i64 0, .string ⟨#[]⟩], .int .i64 3]) (by simp [results, Try.results60, go_sem, d0, d1, d2, d3, d4]) rfl ⟨ret_val HN.out.symm, GF⟩
  case inr =>
  rw [hsb] at p1
  rcases rs with _ | ⟨y, ys⟩
  rotate_left
  · have HN : Hid (rjV zreq #[.int .i64 c, .int .i64 st, .int .i64 k, .int .i64 l, .string n] (decide (65536 < xs.length)) (!sb && ((y :: ys).isEmpty && reqB c st k l n)) = .tuple #[.agg zreq, .int .i64 3]) := by show _ = _; rw [HE.out, hsb]; rfl
    have hlen : 0 < (y :: ys).length := Nat.succ_pos _
    have hdec : decide (0 < (y :: ys).length) = true := decide_eq_true hlen
    generalize (y :: ys).length = len at p0 hlen hdec
    have yc0 := (blk_cell B5 0 (x := .int .i64 0) rfl).1
    have yc1 := (blk_cell B5 1 (x := .int .i64 0) rfl).1
    have yc2 := (blk_cell B5 2 (x := .int .i64 0) rfl).1
    have yc3 := (blk_cell B5 3 (x := .int .i64 0) rfl).1
    have yc4 := (blk_cell B5 4 (x := .string ⟨#[]⟩) rfl).1
    obtain ⟨zc0, zf0⟩ := blk_cell A5 0 (x := .int .i64 0) rfl
    obtain ⟨zc1, zf1⟩ := blk_cell A5 1 (x := .int .i64 0) rfl
    obtain ⟨zc2, zf2⟩ := blk_cell A5 2 (x := .int .i64 0) rfl
    obtain ⟨zc3, zf3⟩ := blk_cell A5 3 (x := .int .i64 0) rfl
    obtain ⟨zc4, zf4⟩ := blk_cell A5 4 (x := .string ⟨#[]⟩) rfl
    clear HE
    have AF : (((((w5.setCell ⟨w.heap.size, 0, none⟩ (.int .i64 0)).setCell ⟨w.heap.size, 1, none⟩ (.int .i64 0)).setCell ⟨w.heap.size, 2, none⟩ (.int .i64 0)).setCell ⟨w.heap.size, 3, none⟩ (.int .i64 0)).setCell ⟨w.heap.size, 4, none⟩ (.string ⟨#[]⟩)).heap[w.heap.size]? = some (.cells #[.int .i64 0, .int .i64 0, .int .i64 0, .int .i64 0, .string ⟨#[]⟩] 44 (0, 0)) := (blk_set (blk_set (blk_set (blk_set (blk_set A5 0 (.int .i64 0)) 1 (.int .i64 0)) 2 (.int .i64 0)) 3 (.int .i64 0)) 4 (.string ⟨#[]⟩))
    have GF : Below w.heap.size w (((((w5.setCell ⟨w.heap.size, 0, none⟩ (.int .i64 0)).setCell ⟨w.heap.size, 1, none⟩ (.int .i64 0)).setCell ⟨w.heap.size, 2, none⟩ (.int .i64 0)).setCell ⟨w.heap.size, 3, none⟩ (.int .i64 0)).setCell ⟨w.heap.size, 4, none⟩ (.string ⟨#[]⟩)) := (Below.setCell (Below.setCell (Below.setCell (Below.setCell (Below.setCell G5 (p := ⟨w.heap.size, 0, none⟩) (Nat.le_refl _) (.int .i64 0)) (p := ⟨w.heap.size, 1, none⟩) (Nat.le_refl _) (.int .i64 0)) (p := ⟨w.heap.size, 2, none⟩) (Nat.le_refl _) (.int .i64 0)) (p := ⟨w.heap.size, 3, none⟩) (Nat.le_refl _) (.int .i64 0)) (p := ⟨w.heap.size, 4, none⟩) (Nat.le_refl _) (.string ⟨#[]⟩))
    go_wp2_with fail
    generalize (((((w5.setCell ⟨w.heap.size, 0, none⟩ (.int .i64 0)).setCell ⟨w.heap.size, 1, none⟩ (.int .i64 0)).setCell ⟨w.heap.size, 2, none⟩ (.int .i64 0)).setCell ⟨w.heap.size, 3, none⟩ (.int .i64 0)).setCell ⟨w.heap.size, 4, none⟩ (.string ⟨#[]⟩)) = wf at AF GF ⊢
    have d0 := (blk_cell AF 0 (x := .int .i64 0) rfl).1
    have d1 := (blk_cell AF 1 (x := .int .i64 0) rfl).1
    have d2 := (blk_cell AF 2 (x := .int .i64 0) rfl).1
    have d3 := (blk_cell AF 3 (x := .int .i64 0) rfl).1
    have d4 := (blk_cell AF 4 (x := .string ⟨#[]⟩) rfl).1
    refine bodyPost_ret (v := .tuple #[.agg #[.int .i64 0, .int .i64 0, .int .i64 0, .int .i64 0, .string ⟨#[]⟩], .int .i64 3]) (by simp [results, Try.results60, go_sem, d0, d1, d2, d3, d4]) rfl ⟨ret_val HN.out.symm, GF⟩
  have xc0 := (blk_cell X5 0 (x := .int .i64 c) rfl).1
  have xc1 := (blk_cell X5 1 (x := .int .i64 st) rfl).1
  have xc2 := (blk_cell X5 2 (x := .int .i64 k) rfl).1
  have xc3 := (blk_cell X5 3 (x := .int .i64 l) rfl).1
  have xc4 := (blk_cell X5 4 (x := .string n) rfl).1
  have HE2 : Hid (rjV zreq #[.int .i64 c, .int .i64 st, .int .i64 k, .int .i64 l, .string n] (decide (65536 < xs.length)) (!sb && (([] : List Int).isEmpty && reqB c st k l n)) = if reqB c st k l n then .tuple #[.agg #[.int .i64 c, .int .i64 st, .int .i64 k, .int .i64 l, .string n], .int .i64 0] else .tuple #[.agg zreq, .int .i64 3]) := by show _ = _; rw [HE.out, hsb]; rfl
  clear HE
  go_wp2_with fail
  refine (implRequestOK_any c st k l n _ (HNS.out ())).mono ?_
  rintro e w6 ⟨rfl, b6⟩
  have t5 : w.heap.size + 1 < w5.heap.size := (Array.getElem?_eq_some_iff.1 B5).1
  have A6 := (b6.block w.heap.size (by omega)).trans A5
  have B6 := (b6.block (w.heap.size + 1) t5).trans B5
  have X6 := (b6.block x5 hx5).trans X5
  have G6 : Below w.heap.size w w6 := G5.trans (b6.mono G5.size)
  clear A5 B5 X5 G5 b6 hx5 t5 p0 p1 xc0 xc1 xc2 xc3 xc4
  cases hq : reqB c st k l n
  case false =>
    have HN : Hid (rjV zreq #[.int .i64 c, .int .i64 st, .int .i64 k, .int .i64 l, .string n] (decide (65536 < xs.length)) (!sb && (([] : List Int).isEmpty && reqB c st k l n)) = .tuple #[.agg zreq, .int .i64 3]) := by show _ = _; rw [HE2.out, hq]; rfl
    have yc0 := (blk_cell B6 0 (x := .int .i64 0) rfl).1
    have yc1 := (blk_cell B6 1 (x := .int .i64 0) rfl).1
    have yc2 := (blk_cell B6 2 (x := .int .i64 0) rfl).1
    have yc3 := (blk_cell B6 3 (x := .int .i64 0) rfl).1
    have yc4 := (blk_cell B6 4 (x := .string ⟨#[]⟩) rfl).1
    obtain ⟨zc0, zf0⟩ := blk_cell A6 0 (x := .int .i64 0) rfl
    obtain ⟨zc1, zf1⟩ := blk_cell A6 1 (x := .int .i64 0) rfl
    obtain ⟨zc2, zf2⟩ := blk_cell A6 2 (x := .int .i64 0) rfl
    obtain ⟨zc3, zf3⟩ := blk_cell A6 3 (x := .int .i64 0) rfl
    obtain ⟨zc4, zf4⟩ := blk_cell A6 4 (x := .string ⟨#[]⟩) rfl
    clear HE2
    have AF : (((((w6.setCell ⟨w.heap.size, 0, none⟩ (.int .i64 0)).setCell ⟨w.heap.size, 1, none⟩ (.int .i64 0)).setCell ⟨w.heap.size, 2, none⟩ (.int .i64 0)).setCell ⟨w.heap.size, 3, none⟩ (.int .i64 0)).setCell ⟨w.heap.size, 4, none⟩ (.string ⟨#[]⟩)).heap[w.heap.size]? = some (.cells #[.int .i64 0, .int .i64 0, .int .i64 0, .int .i64 0, .string ⟨#[]⟩] 44 (0, 0)) := (blk_set (blk_set (blk_set (blk_set (blk_set A6 0 (.int .i64 0)) 1 (.int .i64 0)) 2 (.int .i64 0)) 3 (.int .i64 0)) 4 (.string ⟨#[]⟩))
    have GF : Below w.heap.size w (((((w6.setCell ⟨w.heap.size, 0, none⟩ (.int .i64 0)).setCell ⟨w.heap.size, 1, none⟩ (.int .i64 0)).setCell ⟨w.heap.size, 2, none⟩ (.int .i64 0)).setCell ⟨w.heap.size, 3, none⟩ (.int .i64 0)).setCell ⟨w.heap.size, 4, none⟩ (.string ⟨#[]⟩)) := (Below.setCell (Below.setCell (Below.setCell (Below.setCell (Below.setCell G6 (p := ⟨w.heap.size, 0, none⟩) (Nat.le_refl _) (.int .i64 0)) (p := ⟨w.heap.size, 1, none⟩) (Nat.le_refl _) (.int .i64 0)) (p := ⟨w.heap.size, 2, none⟩) (Nat.le_refl _) (.int .i64 0)) (p := ⟨w.heap.size, 3, none⟩) (Nat.le_refl _) (.int .i64 0)) (p := ⟨w.heap.size, 4, none⟩) (Nat.le_refl _) (.string ⟨#[]⟩))
    go_wp2_with fail
    generalize (((((w6.setCell ⟨w.heap.size, 0, none⟩ (.int .i64 0)).setCell ⟨w.heap.size, 1, none⟩ (.int .i64 0)).setCell ⟨w.heap.size, 2, none⟩ (.int .i64 0)).setCell ⟨w.heap.size, 3, none⟩ (.int .i64 0)).setCell ⟨w.heap.size, 4, none⟩ (.string ⟨#[]⟩)) = wf at AF GF ⊢
    have d0 := (blk_cell AF 0 (x := .int .i64 0) rfl).1
    have d1 := (blk_cell AF 1 (x := .int .i64 0) rfl).1
    have d2 := (blk_cell AF 2 (x := .int .i64 0) rfl).1
    have d3 := (blk_cell AF 3 (x := .int .i64 0) rfl).1
    have d4 := (blk_cell AF 4 (x := .string ⟨#[]⟩) rfl).1
    refine bodyPost_ret (v := .tuple #[.agg #[.int .i64 0, .int .i64 0, .int .i64 0, .int .i64 0, .string ⟨#[]⟩], .int .i64 3]) (by simp [results, Try.results60, go_sem, d0, d1, d2, d3, d4]) rfl ⟨ret_val HN.out.symm, GF⟩
  case true =>
    have HN : Hid (rjV zreq #[.int .i64 c, .int .i64 st, .int .i64 k, .int .i64 l, .string n] (decide (65536 < xs.length)) (!sb && (([] : List Int).isEmpty && reqB c st k l n)) = .tuple #[.agg #[.int .i64 c, .int .i64 st, .int .i64 k, .int .i64 l, .string n], .int .i64 0]) := by show _ = _; rw [HE2.out, hq]; rfl
    have xc0 := (blk_cell X6 0 (x := .int .i64 c) rfl).1
    have xc1 := (blk_cell X6 1 (x := .int .i64 st) rfl).1
    have xc2 := (blk_cell X6 2 (x := .int .i64 k) rfl).1
    have xc3 := (blk_cell X6 3 (x := .int .i64 l) rfl).1
    have xc4 := (blk_cell X6 4 (x := .string n) rfl).1
    obtain ⟨zc0, zf0⟩ := blk_cell A6 0 (x := .int .i64 0) rfl
    obtain ⟨zc1, zf1⟩ := blk_cell A6 1 (x := .int .i64 0) rfl
    obtain ⟨zc2, zf2⟩ := blk_cell A6 2 (x := .int .i64 0) rfl
    obtain ⟨zc3, zf3⟩ := blk_cell A6 3 (x := .int .i64 0) rfl
    obtain ⟨zc4, zf4⟩ := blk_cell A6 4 (x := .string ⟨#[]⟩) rfl
    clear HE2
    have AF : (((((w6.setCell ⟨w.heap.size, 0, none⟩ (.int .i64 c)).setCell ⟨w.heap.size, 1, none⟩ (.int .i64 st)).setCell ⟨w.heap.size, 2, none⟩ (.int .i64 k)).setCell ⟨w.heap.size, 3, none⟩ (.int .i64 l)).setCell ⟨w.heap.size, 4, none⟩ (.string n)).heap[w.heap.size]? = some (.cells #[.int .i64 c, .int .i64 st, .int .i64 k, .int .i64 l, .string n] 44 (0, 0)) := (blk_set (blk_set (blk_set (blk_set (blk_set A6 0 (.int .i64 c)) 1 (.int .i64 st)) 2 (.int .i64 k)) 3 (.int .i64 l)) 4 (.string n))
    have GF : Below w.heap.size w (((((w6.setCell ⟨w.heap.size, 0, none⟩ (.int .i64 c)).setCell ⟨w.heap.size, 1, none⟩ (.int .i64 st)).setCell ⟨w.heap.size, 2, none⟩ (.int .i64 k)).setCell ⟨w.heap.size, 3, none⟩ (.int .i64 l)).setCell ⟨w.heap.size, 4, none⟩ (.string n)) := (Below.setCell (Below.setCell (Below.setCell (Below.setCell (Below.setCell G6 (p := ⟨w.heap.size, 0, none⟩) (Nat.le_refl _) (.int .i64 c)) (p := ⟨w.heap.size, 1, none⟩) (Nat.le_refl _) (.int .i64 st)) (p := ⟨w.heap.size, 2, none⟩) (Nat.le_refl _) (.int .i64 k)) (p := ⟨w.heap.size, 3, none⟩) (Nat.le_refl _) (.int .i64 l)) (p := ⟨w.heap.size, 4, none⟩) (Nat.le_refl _) (.string n))
    go_wp2_with fail
    generalize (((((w6.setCell ⟨w.heap.size, 0, none⟩ (.int .i64 c)).setCell ⟨w.heap.size, 1, none⟩ (.int .i64 st)).setCell ⟨w.heap.size, 2, none⟩ (.int .i64 k)).setCell ⟨w.heap.size, 3, none⟩ (.int .i64 l)).setCell ⟨w.heap.size, 4, none⟩ (.string n)) = wf at AF GF ⊢
    have d0 := (blk_cell AF 0 (x := .int .i64 c) rfl).1
    have d1 := (blk_cell AF 1 (x := .int .i64 st) rfl).1
    have d2 := (blk_cell AF 2 (x := .int .i64 k) rfl).1
    have d3 := (blk_cell AF 3 (x := .int .i64 l) rfl).1
    have d4 := (blk_cell AF 4 (x := .string n) rfl).1
    refine bodyPost_ret (v := .tuple #[.agg #[.int .i64 c, .int .i64 st, .int .i64 k, .int .i64 l, .string n], .int .i64 0]) (by simp [results, Try.results60, go_sem, d0, d1, d2, d3, d4]) rfl ⟨ret_val HN.out.symm, GF⟩
set_option maxHeartbeats 800000 in
theorem readJustMsg_gen (v : Value) (xs : List Int) (w : World) (h : RowB w v xs) (hl : xs.length ≤ 1048576) (kd vw sq fr : Int) (dg bd mc : ByteArray) (rs : List Int) (sb : Bool)
    (htake : ∀ (W : World) (p B : Nat), Rdr B W p xs false → B ≤ p → xs.length ≤ 70000 → (∀ x ∈ xs, 0 ≤ x ∧ x ≤ 255) → Calls Try.prog 51 #[.pointer (some ⟨p, 0, none⟩)] W fun e w' => e = .returned (.agg #[.int .i64 kd, .int .i64 vw, .int .i64 sq, .int .i64 fr, .string dg, .string bd, .string mc]) ∧ Rdr B w' p rs sb ∧ W.grownBy w' (some p)) :
    Calls Try.prog 50 #[v, .func (Fn.func 51) #[] #[], .func (Fn.func 15) #[] #[]] w fun e w' => e = .returned (rjV zmsg #[.int .i64 kd, .int .i64 vw, .int .i64 sq, .int .i64 fr, .string dg, .string bd, .string mc] (decide (65536 < xs.length)) (!sb && (rs.isEmpty && msgB kd vw sq fr dg bd mc))) ∧ Below w.heap.size w w' := by
  have HT : Hid (_) := htake
  clear htake
  have HU : Hid (RowU w.heap.size w v xs) := RowU.of h
  obtain ⟨a, cap, rfl, _, hr⟩ := h
  by_cases hb : 65536 < xs.length
  · have hb' : (65536 : Int) < (xs.length : Int) := by omega
    have HE : Hid (rjV zmsg #[.int .i64 kd, .int .i64 vw, .int .i64 sq, .int .i64 fr, .string dg, .string bd, .string mc] (decide (65536 < xs.length)) (!sb && (rs.isEmpty && msgB kd vw sq fr dg bd mc)) = .tuple #[.agg zmsg, .int .i64 2]) := by show _ = _; rw [decide_eq_true hb]; rfl
    go_enter Try.func50, Try.ntmps50
    go_wp2_with fail
    refine bodyPost_ret (v := .tuple #[.agg zmsg, .int .i64 2]) (by simp [zmsg, results, Try.results50, go_sem]) rfl ⟨ret_val HE.out.symm, ((Below.refl _ _).alloc (Nat.le_refl _) _).alloc (by simp) _⟩
  have hb' : (xs.length : Int) ≤ 65536 := by omega
  have HR : Hid (∀ x ∈ xs, 0 ≤ x ∧ x ≤ 255) := hr
  have HX : Hid (xs.length ≤ 65536) := by show _ ≤ _; omega
  have W3s : Hid (((w.alloc (.cells zmsg 35)).alloc (.cells zmsg 35)).heap.size = w.heap.size + 1 + 1) := by show _ = _; rw [size_new, size_new]
  have H0 : Hid (Rdr w.heap.size (((w.alloc (.cells zmsg 35)).alloc (.cells zmsg 35)).alloc (.cells #[.slice a xs.length cap, .bool false] 111)) (w.heap.size + 1 + 1) xs false) := by
    refine ⟨_, ?_, HU.out.kept (fun k hk => ?_)⟩
    · have := blk_new ((w.alloc (.cells zmsg 35)).alloc (.cells zmsg 35)) #[.slice a xs.length cap, .bool false] 111
      rw [W3s.out] at this
      exact this
    · rw [Below.heap_alloc _ _ _ (by simp; omega), Below.heap_alloc _ _ _ (by simp; omega), Below.heap_alloc _ _ _ hk]
  have A0 : Hid ((((w.alloc (.cells zmsg 35)).alloc (.cells zmsg 35)).alloc (.cells #[.slice a xs.length cap, .bool false] 111)).heap[w.heap.size]? = some (.cells zmsg 35 (0, 0))) := ((Below.heap_alloc _ _ _ (by simp; omega)).trans (Below.heap_alloc _ _ _ (by simp))).trans (blk_new _ _ _)
  have B0 : Hid ((((w.alloc (.cells zmsg 35)).alloc (.cells zmsg 35)).alloc (.cells #[.slice a xs.length cap, .bool false] 111)).heap[w.heap.size + 1]? = some (.cells zmsg 35 (0, 0))) := by
    have := blk_new (w.alloc (.cells zmsg 35)) zmsg 35
    rw [size_new] at this
    exact (Below.heap_alloc _ _ _ (by simp)).trans this
  have G0 : Hid (Below w.heap.size w (((w.alloc (.cells zmsg 35)).alloc (.cells zmsg 35)).alloc (.cells #[.slice a xs.length cap, .bool false] 111))) := (((Below.refl _ _).alloc (Nat.le_refl _) _).alloc (by simp) _).alloc (by simp; omega) _
  clear hr hl hb HU W3s
  go_enter Try.func50, Try.ntmps50
  go_wp2_with fail
  refine (HT.out _ (w.heap.size + 1 + 1) w.heap.size H0.out (by omega) (by have := HX.out; omega) HR.out).mono ?_
  rintro e w4 ⟨rfl, r4, g4⟩
  have S0 : w.heap.size + 1 + 1 < (((w.alloc (.cells zmsg 35)).alloc (.cells zmsg 35)).alloc (.cells #[.slice a xs.length cap, .bool false] 111)).heap.size := by rw [size_new, size_new, size_new]; omega
  have G4 : Below w.heap.size w w4 := ⟨g4.os.trans G0.out.os, g4.tape.trans G0.out.tape, g4.output.trans G0.out.output, Nat.le_trans G0.out.size g4.size, fun k hk => (below_kept g4 (by omega) S0 k hk).trans (G0.out.block k hk)⟩
  have hp4 : w.heap.size + 1 + 1 < w4.heap.size := Nat.lt_of_lt_of_le S0 g4.size
  have a4 := blk_kept A0.out g4 (by omega)
  have b4 := blk_kept B0.out g4 (by omega)
  obtain ⟨v4, p4, a', cap', rfl, _, _, _⟩ := r4
  have A5 : (w4.alloc (.cells #[.int .i64 kd, .int .i64 vw, .int .i64 sq, .int .i64 fr, .string dg, .string bd, .string mc] 35)).heap[w.heap.size]? = some (.cells zmsg 35 (0, 0)) := (Below.heap_alloc _ _ _ (by omega)).trans a4
  have B5 : (w4.alloc (.cells #[.int .i64 kd, .int .i64 vw, .int .i64 sq, .int .i64 fr, .string dg, .string bd, .string mc] 35)).heap[w.heap.size + 1]? = some (.cells zmsg 35 (0, 0)) := (Below.heap_alloc _ _ _ (by omega)).trans b4
  have P5 := (Below.heap_alloc w4 (.cells #[.int .i64 kd, .int .i64 vw, .int .i64 sq, .int .i64 fr, .string dg, .string bd, .string mc] 35) _ hp4).trans p4
  have X5 : (w4.alloc (.cells #[.int .i64 kd, .int .i64 vw, .int .i64 sq, .int .i64 fr, .string dg, .string bd, .string mc] 35)).heap[w4.heap.size]? = some (.cells #[.int .i64 kd, .int .i64 vw, .int .i64 sq, .int .i64 fr, .string dg, .string bd, .string mc] 35 (0, 0)) := blk_new _ _ _
  have G5 : Below w.heap.size w (w4.alloc (.cells #[.int .i64 kd, .int .i64 vw, .int .i64 sq, .int .i64 fr, .string dg, .string bd, .string mc] 35)) := G4.alloc G4.size _
  have HE : Hid (rjV zmsg #[.int .i64 kd, .int .i64 vw, .int .i64 sq, .int .i64 fr, .string dg, .string bd, .string mc] (decide (65536 < xs.length)) (!sb && (rs.isEmpty && msgB kd vw sq fr dg bd mc)) = if (!sb && (rs.isEmpty && msgB kd vw sq fr dg bd mc)) then .tuple #[.agg #[.int .i64 kd, .int .i64 vw, .int .i64 sq, .int .i64 fr, .string dg, .string bd, .string mc], .int .i64 0] else .tuple #[.agg zmsg, .int .i64 3]) := by show _ = _; rw [decide_eq_false (by have := HX.out; omega)]; rfl
  clear HT g4 H0 A0 B0 G0 S0 a4 b4 p4 G4 hp4
  go_upto_region 6 with fail
  generalize (w4.alloc (.cells #[.int .i64 kd, .int .i64 vw, .int .i64 sq, .int .i64 fr, .string dg, .string bd, .string mc] 35)) = w5 at A5 B5 P5 X5 G5 ⊢
  have hx5 : w4.heap.size < w5.heap.size := (Array.getElem?_eq_some_iff.1 X5).1
  generalize w4.heap.size = x5 at X5 hx5 ⊢
  obtain ⟨p0, _⟩ := blk_cell P5 0 (x := .slice a' (rs).length cap') rfl
  obtain ⟨p1, _⟩ := blk_cell P5 1 (x := .bool (sb)) rfl
  clear P5
  rcases Bool.eq_false_or_eq_true sb with hsb | hsb
  case inl =>
    rw [hsb] at p1
    have HN : Hid (rjV zmsg #[.int .i64 kd, .int .i64 vw, .int .i64 sq, .int .i64 fr, .string dg, .string bd, .string mc] (decide (65536 < xs.length)) (!sb && (rs.isEmpty && msgB kd vw sq fr dg bd mc)) = .tuple #[.agg zmsg, .int .i64 3]) := by show _ = _; rw [HE.out, hsb]; rfl
    have yc0 := (blk_cell B5 0 (x := .int .i64 0) rfl).1
    have yc1 := (blk_cell B5 1 (x := .int .i64 0) rfl).1
    have yc2 := (blk_cell B5 2 (x := .int .i64 0) rfl).1
    have yc3 := (blk_cell B5 3 (x := .int .i64 0) rfl).1
    have yc4 := (blk_cell B5 4 (x := .string ⟨#[]⟩) rfl).1
    have yc5 := (blk_cell B5 5 (x := .string ⟨#[]⟩) rfl).1
    have yc6 := (blk_cell B5 6 (x := .string ⟨#[]⟩) rfl).1
    obtain ⟨zc0, zf0⟩ := blk_cell A5 0 (x := .int .i64 0) rfl
    obtain ⟨zc1, zf1⟩ := blk_cell A5 1 (x := .int .i64 0) rfl
    obtain ⟨zc2, zf2⟩ := blk_cell A5 2 (x := .int .i64 0) rfl
    obtain ⟨zc3, zf3⟩ := blk_cell A5 3 (x := .int .i64 0) rfl
    obtain ⟨zc4, zf4⟩ := blk_cell A5 4 (x := .string ⟨#[]⟩) rfl
    obtain ⟨zc5, zf5⟩ := blk_cell A5 5 (x := .string ⟨#[]⟩) rfl
    obtain ⟨zc6, zf6⟩ := blk_cell A5 6 (x := .string ⟨#[]⟩) rfl
    clear HE
    have AF : (((((((w5.setCell ⟨w.heap.size, 0, none⟩ (.int .i64 0)).setCell ⟨w.heap.size, 1, none⟩ (.int .i64 0)).setCell ⟨w.heap.size, 2, none⟩ (.int .i64 0)).setCell ⟨w.heap.size, 3, none⟩ (.int .i64 0)).setCell ⟨w.heap.size, 4, none⟩ (.string ⟨#[]⟩)).setCell ⟨w.heap.size, 5, none⟩ (.string ⟨#[]⟩)).setCell ⟨w.heap.size, 6, none⟩ (.string ⟨#[]⟩)).heap[w.heap.size]? = some (.cells #[.int .i64 0, .int .i64 0, .int .i64 0, .int .i64 0, .string ⟨#[]⟩, .string ⟨#[]⟩, .string ⟨#[]⟩] 35 (0, 0)) := (blk_set (blk_set (blk_set (blk_set (blk_set (blk_set (blk_set A5 0 (.int .i64 0)) 1 (.int .i64 0)) 2 (.int .i64 0)) 3 (.int .i64 0)) 4 (.string ⟨#[]⟩)) 5 (.string ⟨#[]⟩)) 6 (.string ⟨#[]⟩))
    have GF : Below w.heap.size w (((((((w5.setCell ⟨w.heap.size, 0, none⟩ (.int .i64 0)).setCell ⟨w.heap.size, 1, none⟩ (.int .i64 0)).setCell ⟨w.heap.size, 2, none⟩ (.int .i64 0)).setCell ⟨w.heap.size, 3, none⟩ (.int .i64 0)).setCell ⟨w.heap.size, 4, none⟩ (.string ⟨#[]⟩)).setCell ⟨w.heap.size, 5, none⟩ (.string ⟨#[]⟩)).setCell ⟨w.heap.size, 6, none⟩ (.string ⟨#[]⟩)) := (Below.setCell (Below.setCell (Below.setCell (Below.setCell (Below.setCell (Below.setCell (Below.setCell G5 (p := ⟨w.heap.size, 0, none⟩) (Nat.le_refl _) (.int .i64 0)) (p := ⟨w.heap.size, 1, none⟩) (Nat.le_refl _) (.int .i64 0)) (p := ⟨w.heap.size, 2, none⟩) (Nat.le_refl _) (.int .i64 0)) (p := ⟨w.heap.size, 3, none⟩) (Nat.le_refl _) (.int .i64 0)) (p := ⟨w.heap.size, 4, none⟩) (Nat.le_refl _) (.string ⟨#[]⟩)) (p := ⟨w.heap.size, 5, none⟩) (Nat.le_refl _) (.string ⟨#[]⟩)) (p := ⟨w.heap.size, 6, none⟩) (Nat.le_refl _) (.string ⟨#[]⟩))
    go_wp2_with fail
    generalize (((((((w5.setCell ⟨w.heap.size, 0, none⟩ (.int .i64 0)).setCell ⟨w.heap.size, 1, none⟩ (.int .i64 0)).setCell ⟨w.heap.size, 2, none⟩ (.int .i64 0)).setCell ⟨w.heap.size, 3, none⟩ (.int .i64 0)).setCell ⟨w.heap.size, 4, none⟩ (.string ⟨#[]⟩)).setCell ⟨w.heap.size, 5, none⟩ (.string ⟨#[]⟩)).setCell ⟨w.heap.size, 6, none⟩ (.string ⟨#[]⟩)) = wf at AF GF ⊢
    have d0 := (blk_cell AF 0 (x := .int .i64 0) rfl).1
    have d1 := (blk_cell AF 1 (x := .int .i64 0) rfl).1
    have d2 := (blk_cell AF 2 (x := .int .i64 0) rfl).1
    have d3 := (blk_cell AF 3 (x := .int .i64 0) rfl).1
    have d4 := (blk_cell AF 4 (x := .string ⟨#[]⟩) rfl).1
    have d5 := (blk_cell AF 5 (x := .string ⟨#[]⟩) rfl).1
    have d6 := (blk_cell AF 6 (x := .string ⟨#[]⟩) rfl).1
    refine bodyPost_ret (v := .tuple #[.agg #[.int .i64 0, .int .i64 0, .int .i64 0, .int .i64 0, .string ⟨#[]⟩, .string ⟨#[]⟩, .string ⟨#[]⟩], .int .i64 3]) (by simp [results, Try.results50, go_sem, d0, d1, d2, d3, d4, d5, d6]) rfl ⟨ret_val HN.out.symm, GF⟩
  case inr =>
  rw [hsb] at p1
  rcases rs with _ | ⟨y, ys⟩
  rotate_left
  · have HN : Hid (rjV zmsg #[.int .i64 kd, .int .i64 vw, .int .i64 sq, .int .i64 fr, .string dg, .string bd, .string mc] (decide (65536 < xs.length)) (!sb && ((y :: ys).isEmpty && msgB kd vw sq fr dg bd mc)) = .tuple #[.agg zmsg, .int .i64 3]) := by show _ = _; rw [HE.out, hsb]; rfl
    have hlen : 0 < (y :: ys).length := Nat.succ_pos _
    have hdec : decide (0 < (y :: ys).length) = true := decide_eq_true hlen
    generalize (y :: ys).length = len at p0 hlen hdec
    have yc0 := (blk_cell B5 0 (x := .int .i64 0) rfl).1
    have yc1 := (blk_cell B5 1 (x := .int .i64 0) rfl).1
    have yc2 := (blk_cell B5 2 (x := .int .i64 0) rfl).1
    have yc3 := (blk_cell B5 3 (x := .int .i64 0) rfl).1
    have yc4 := (blk_cell B5 4 (x := .string ⟨#[]⟩) rfl).1
    have yc5 := (blk_cell B5 5 (x := .string ⟨#[]⟩) rfl).1
    have yc6 := (blk_cell B5 6 (x := .string ⟨#[]⟩) rfl).1
    obtain ⟨zc0, zf0⟩ := blk_cell A5 0 (x := .int .i64 0) rfl
    obtain ⟨zc1, zf1⟩ := blk_cell A5 1 (x := .int .i64 0) rfl
    obtain ⟨zc2, zf2⟩ := blk_cell A5 2 (x := .int .i64 0) rfl
    obtain ⟨zc3, zf3⟩ := blk_cell A5 3 (x := .int .i64 0) rfl
    obtain ⟨zc4, zf4⟩ := blk_cell A5 4 (x := .string ⟨#[]⟩) rfl
    obtain ⟨zc5, zf5⟩ := blk_cell A5 5 (x := .string ⟨#[]⟩) rfl
    obtain ⟨zc6, zf6⟩ := blk_cell A5 6 (x := .string ⟨#[]⟩) rfl
    clear HE
    have AF : (((((((w5.setCell ⟨w.heap.size, 0, none⟩ (.int .i64 0)).setCell ⟨w.heap.size, 1, none⟩ (.int .i64 0)).setCell ⟨w.heap.size, 2, none⟩ (.int .i64 0)).setCell ⟨w.heap.size, 3, none⟩ (.int .i64 0)).setCell ⟨w.heap.size, 4, none⟩ (.string ⟨#[]⟩)).setCell ⟨w.heap.size, 5, none⟩ (.string ⟨#[]⟩)).setCell ⟨w.heap.size, 6, none⟩ (.string ⟨#[]⟩)).heap[w.heap.size]? = some (.cells #[.int .i64 0, .int .i64 0, .int .i64 0, .int .i64 0, .string ⟨#[]⟩, .string ⟨#[]⟩, .string ⟨#[]⟩] 35 (0, 0)) := (blk_set (blk_set (blk_set (blk_set (blk_set (blk_set (blk_set A5 0 (.int .i64 0)) 1 (.int .i64 0)) 2 (.int .i64 0)) 3 (.int .i64 0)) 4 (.string ⟨#[]⟩)) 5 (.string ⟨#[]⟩)) 6 (.string ⟨#[]⟩))
    have GF : Below w.heap.size w (((((((w5.setCell ⟨w.heap.size, 0, none⟩ (.int .i64 0)).setCell ⟨w.heap.size, 1, none⟩ (.int .i64 0)).setCell ⟨w.heap.size, 2, none⟩ (.int .i64 0)).setCell ⟨w.heap.size, 3, none⟩ (.int .i64 0)).setCell ⟨w.heap.size, 4, none⟩ (.string ⟨#[]⟩)).setCell ⟨w.heap.size, 5, none⟩ (.string ⟨#[]⟩)).setCell ⟨w.heap.size, 6, none⟩ (.string ⟨#[]⟩)) := (Below.setCell (Below.setCell (Below.setCell (Below.setCell (Below.setCell (Below.setCell (Below.setCell G5 (p := ⟨w.heap.size, 0, none⟩) (Nat.le_refl _) (.int .i64 0)) (p := ⟨w.heap.size, 1, none⟩) (Nat.le_refl _) (.int .i64 0)) (p := ⟨w.heap.size, 2, none⟩) (Nat.le_refl _) (.int .i64 0)) (p := ⟨w.heap.size, 3, none⟩) (Nat.le_refl _) (.int .i64 0)) (p := ⟨w.heap.size, 4, none⟩) (Nat.le_refl _) (.string ⟨#[]⟩)) (p := ⟨w.heap.size, 5, none⟩) (Nat.le_refl _) (.string ⟨#[]⟩)) (p := ⟨w.heap.size, 6, none⟩) (Nat.le_refl _) (.string ⟨#[]⟩))
    go_wp2_with fail
    generalize (((((((w5.setCell ⟨w.heap.size, 0, none⟩ (.int .i64 0)).setCell ⟨w.heap.size, 1, none⟩ (.int .i64 0)).setCell ⟨w.heap.size, 2, none⟩ (.int .i64 0)).setCell ⟨w.heap.size, 3, none⟩ (.int .i64 0)).setCell ⟨w.heap.size, 4, none⟩ (.string ⟨#[]⟩)).setCell ⟨w.heap.size, 5, none⟩ (.string ⟨#[]⟩)).setCell ⟨w.heap.size, 6, none⟩ (.string ⟨#[]⟩)) = wf at AF GF ⊢
    have d0 := (blk_cell AF 0 (x := .int .i64 0) rfl).1
    have d1 := (blk_cell AF 1 (x := .int .i64 0) rfl).1
    have d2 := (blk_cell AF 2 (x := .int .i64 0) rfl).1
    have d3 := (blk_cell AF 3 (x := .int .i64 0) rfl).1
    have d4 := (blk_cell AF 4 (x := .string ⟨#[]⟩) rfl).1
    have d5 := (blk_cell AF 5 (x := .string ⟨#[]⟩) rfl).1
    have d6 := (blk_cell AF 6 (x := .string ⟨#[]⟩) rfl).1
    refine bodyPost_ret (v := .tuple #[.agg #[.int .i64 0, .int .i64 0, .int .i64 0, .int .i64 0, .string ⟨#[]⟩, .string ⟨#[]⟩, .string ⟨#[]⟩], .int .i64 3]) (by simp [results, Try.results50, go_sem, d0, d1, d2, d3, d4, d5, d6]) rfl ⟨ret_val HN.out.symm, GF⟩
  have xc0 := (blk_cell X5 0 (x := .int .i64 kd) rfl).1
  have xc1 := (blk_cell X5 1 (x := .int .i64 vw) rfl).1
  have xc2 := (blk_cell X5 2 (x := .int .i64 sq) rfl).1
  have xc3 := (blk_cell X5 3 (x := .int .i64 fr) rfl).1
  have xc4 := (blk_cell X5 4 (x := .string dg) rfl).1
  have xc5 := (blk_cell X5 5 (x := .string bd) rfl).1
  have xc6 := (blk_cell X5 6 (x := .string mc) rfl).1
  have HE2 : Hid (rjV zmsg #[.int .i64 kd, .int .i64 vw, .int .i64 sq, .int .i64 fr, .string dg, .string bd, .string mc] (decide (65536 < xs.length)) (!sb && (([] : List Int).isEmpty && msgB kd vw sq fr dg bd mc)) = if msgB kd vw sq fr dg bd mc then .tuple #[.agg #[.int .i64 kd, .int .i64 vw, .int .i64 sq, .int .i64 fr, .string dg, .string bd, .string mc], .int .i64 0] else .tuple #[.agg zmsg, .int .i64 3]) := by show _ = _; rw [HE.out, hsb]; rfl
  clear HE
  go_wp2_with fail
  refine (implMessageOK_any kd vw sq fr dg bd mc _).mono ?_
  rintro e w6 ⟨rfl, b6⟩
  have t5 : w.heap.size + 1 < w5.heap.size := (Array.getElem?_eq_some_iff.1 B5).1
  have A6 := (b6.block w.heap.size (by omega)).trans A5
  have B6 := (b6.block (w.heap.size + 1) t5).trans B5
  have X6 := (b6.block x5 hx5).trans X5
  have G6 : Below w.heap.size w w6 := G5.trans (b6.mono G5.size)
  clear A5 B5 X5 G5 b6 hx5 t5 p0 p1 xc0 xc1 xc2 xc3 xc4 xc5 xc6
  cases hq : msgB kd vw sq fr dg bd mc
  case false =>
    have HN : Hid (rjV zmsg #[.int .i64 kd, .int .i64 vw, .int .i64 sq, .int .i64 fr, .string dg, .string bd, .string mc] (decide (65536 < xs.length)) (!sb && (([] : List Int).isEmpty && msgB kd vw sq fr dg bd mc)) = .tuple #[.agg zmsg, .int .i64 3]) := by show _ = _; rw [HE2.out, hq]; rfl
    have yc0 := (blk_cell B6 0 (x := .int .i64 0) rfl).1
    have yc1 := (blk_cell B6 1 (x := .int .i64 0) rfl).1
    have yc2 := (blk_cell B6 2 (x := .int .i64 0) rfl).1
    have yc3 := (blk_cell B6 3 (x := .int .i64 0) rfl).1
    have yc4 := (blk_cell B6 4 (x := .string ⟨#[]⟩) rfl).1
    have yc5 := (blk_cell B6 5 (x := .string ⟨#[]⟩) rfl).1
    have yc6 := (blk_cell B6 6 (x := .string ⟨#[]⟩) rfl).1
    obtain ⟨zc0, zf0⟩ := blk_cell A6 0 (x := .int .i64 0) rfl
    obtain ⟨zc1, zf1⟩ := blk_cell A6 1 (x := .int .i64 0) rfl
    obtain ⟨zc2, zf2⟩ := blk_cell A6 2 (x := .int .i64 0) rfl
    obtain ⟨zc3, zf3⟩ := blk_cell A6 3 (x := .int .i64 0) rfl
    obtain ⟨zc4, zf4⟩ := blk_cell A6 4 (x := .string ⟨#[]⟩) rfl
    obtain ⟨zc5, zf5⟩ := blk_cell A6 5 (x := .string ⟨#[]⟩) rfl
    obtain ⟨zc6, zf6⟩ := blk_cell A6 6 (x := .string ⟨#[]⟩) rfl
    clear HE2
    have AF : (((((((w6.setCell ⟨w.heap.size, 0, none⟩ (.int .i64 0)).setCell ⟨w.heap.size, 1, none⟩ (.int .i64 0)).setCell ⟨w.heap.size, 2, none⟩ (.int .i64 0)).setCell ⟨w.heap.size, 3, none⟩ (.int .i64 0)).setCell ⟨w.heap.size, 4, none⟩ (.string ⟨#[]⟩)).setCell ⟨w.heap.size, 5, none⟩ (.string ⟨#[]⟩)).setCell ⟨w.heap.size, 6, none⟩ (.string ⟨#[]⟩)).heap[w.heap.size]? = some (.cells #[.int .i64 0, .int .i64 0, .int .i64 0, .int .i64 0, .string ⟨#[]⟩, .string ⟨#[]⟩, .string ⟨#[]⟩] 35 (0, 0)) := (blk_set (blk_set (blk_set (blk_set (blk_set (blk_set (blk_set A6 0 (.int .i64 0)) 1 (.int .i64 0)) 2 (.int .i64 0)) 3 (.int .i64 0)) 4 (.string ⟨#[]⟩)) 5 (.string ⟨#[]⟩)) 6 (.string ⟨#[]⟩))
    have GF : Below w.heap.size w (((((((w6.setCell ⟨w.heap.size, 0, none⟩ (.int .i64 0)).setCell ⟨w.heap.size, 1, none⟩ (.int .i64 0)).setCell ⟨w.heap.size, 2, none⟩ (.int .i64 0)).setCell ⟨w.heap.size, 3, none⟩ (.int .i64 0)).setCell ⟨w.heap.size, 4, none⟩ (.string ⟨#[]⟩)).setCell ⟨w.heap.size, 5, none⟩ (.string ⟨#[]⟩)).setCell ⟨w.heap.size, 6, none⟩ (.string ⟨#[]⟩)) := (Below.setCell (Below.setCell (Below.setCell (Below.setCell (Below.setCell (Below.setCell (Below.setCell G6 (p := ⟨w.heap.size, 0, none⟩) (Nat.le_refl _) (.int .i64 0)) (p := ⟨w.heap.size, 1, none⟩) (Nat.le_refl _) (.int .i64 0)) (p := ⟨w.heap.size, 2, none⟩) (Nat.le_refl _) (.int .i64 0)) (p := ⟨w.heap.size, 3, none⟩) (Nat.le_refl _) (.int .i64 0)) (p := ⟨w.heap.size, 4, none⟩) (Nat.le_refl _) (.string ⟨#[]⟩)) (p := ⟨w.heap.size, 5, none⟩) (Nat.le_refl _) (.string ⟨#[]⟩)) (p := ⟨w.heap.size, 6, none⟩) (Nat.le_refl _) (.string ⟨#[]⟩))
    go_wp2_with fail
    generalize (((((((w6.setCell ⟨w.heap.size, 0, none⟩ (.int .i64 0)).setCell ⟨w.heap.size, 1, none⟩ (.int .i64 0)).setCell ⟨w.heap.size, 2, none⟩ (.int .i64 0)).setCell ⟨w.heap.size, 3, none⟩ (.int .i64 0)).setCell ⟨w.heap.size, 4, none⟩ (.string ⟨#[]⟩)).setCell ⟨w.heap.size, 5, none⟩ (.string ⟨#[]⟩)).setCell ⟨w.heap.size, 6, none⟩ (.string ⟨#[]⟩)) = wf at AF GF ⊢
    have d0 := (blk_cell AF 0 (x := .int .i64 0) rfl).1
    have d1 := (blk_cell AF 1 (x := .int .i64 0) rfl).1
    have d2 := (blk_cell AF 2 (x := .int .i64 0) rfl).1
    have d3 := (blk_cell AF 3 (x := .int .i64 0) rfl).1
    have d4 := (blk_cell AF 4 (x := .string ⟨#[]⟩) rfl).1
    have d5 := (blk_cell AF 5 (x := .string ⟨#[]⟩) rfl).1
    have d6 := (blk_cell AF 6 (x := .string ⟨#[]⟩) rfl).1
    refine bodyPost_ret (v := .tuple #[.agg #[.int .i64 0, .int .i64 0, .int .i64 0, .int .i64 0, .string ⟨#[]⟩, .string ⟨#[]⟩, .string ⟨#[]⟩], .int .i64 3]) (by simp [results, Try.results50, go_sem, d0, d1, d2, d3, d4, d5, d6]) rfl ⟨ret_val HN.out.symm, GF⟩
  case true =>
    have HN : Hid (rjV zmsg #[.int .i64 kd, .int .i64 vw, .int .i64 sq, .int .i64 fr, .string dg, .string bd, .string mc] (decide (65536 < xs.length)) (!sb && (([] : List Int).isEmpty && msgB kd vw sq fr dg bd mc)) = .tuple #[.agg #[.int .i64 kd, .int .i64 vw, .int .i64 sq, .int .i64 fr, .string dg, .string bd, .string mc], .int .i64 0]) := by show _ = _; rw [HE2.out, hq]; rfl
    have xc0 := (blk_cell X6 0 (x := .int .i64 kd) rfl).1
    have xc1 := (blk_cell X6 1 (x := .int .i64 vw) rfl).1
    have xc2 := (blk_cell X6 2 (x := .int .i64 sq) rfl).1
    have xc3 := (blk_cell X6 3 (x := .int .i64 fr) rfl).1
    have xc4 := (blk_cell X6 4 (x := .string dg) rfl).1
    have xc5 := (blk_cell X6 5 (x := .string bd) rfl).1
    have xc6 := (blk_cell X6 6 (x := .string mc) rfl).1
    obtain ⟨zc0, zf0⟩ := blk_cell A6 0 (x := .int .i64 0) rfl
    obtain ⟨zc1, zf1⟩ := blk_cell A6 1 (x := .int .i64 0) rfl
    obtain ⟨zc2, zf2⟩ := blk_cell A6 2 (x := .int .i64 0) rfl
    obtain ⟨zc3, zf3⟩ := blk_cell A6 3 (x := .int .i64 0) rfl
    obtain ⟨zc4, zf4⟩ := blk_cell A6 4 (x := .string ⟨#[]⟩) rfl
    obtain ⟨zc5, zf5⟩ := blk_cell A6 5 (x := .string ⟨#[]⟩) rfl
    obtain ⟨zc6, zf6⟩ := blk_cell A6 6 (x := .string ⟨#[]⟩) rfl
    clear HE2
    have AF : (((((((w6.setCell ⟨w.heap.size, 0, none⟩ (.int .i64 kd)).setCell ⟨w.heap.size, 1, none⟩ (.int .i64 vw)).setCell ⟨w.heap.size, 2, none⟩ (.int .i64 sq)).setCell ⟨w.heap.size, 3, none⟩ (.int .i64 fr)).setCell ⟨w.heap.size, 4, none⟩ (.string dg)).setCell ⟨w.heap.size, 5, none⟩ (.string bd)).setCell ⟨w.heap.size, 6, none⟩ (.string mc)).heap[w.heap.size]? = some (.cells #[.int .i64 kd, .int .i64 vw, .int .i64 sq, .int .i64 fr, .string dg, .string bd, .string mc] 35 (0, 0)) := (blk_set (blk_set (blk_set (blk_set (blk_set (blk_set (blk_set A6 0 (.int .i64 kd)) 1 (.int .i64 vw)) 2 (.int .i64 sq)) 3 (.int .i64 fr)) 4 (.string dg)) 5 (.string bd)) 6 (.string mc))
    have GF : Below w.heap.size w (((((((w6.setCell ⟨w.heap.size, 0, none⟩ (.int .i64 kd)).setCell ⟨w.heap.size, 1, none⟩ (.int .i64 vw)).setCell ⟨w.heap.size, 2, none⟩ (.int .i64 sq)).setCell ⟨w.heap.size, 3, none⟩ (.int .i64 fr)).setCell ⟨w.heap.size, 4, none⟩ (.string dg)).setCell ⟨w.heap.size, 5, none⟩ (.string bd)).setCell ⟨w.heap.size, 6, none⟩ (.string mc)) := (Below.setCell (Below.setCell (Below.setCell (Below.setCell (Below.setCell (Below.setCell (Below.setCell G6 (p := ⟨w.heap.size, 0, none⟩) (Nat.le_refl _) (.int .i64 kd)) (p := ⟨w.heap.size, 1, none⟩) (Nat.le_refl _) (.int .i64 vw)) (p := ⟨w.heap.size, 2, none⟩) (Nat.le_refl _) (.int .i64 sq)) (p := ⟨w.heap.size, 3, none⟩) (Nat.le_refl _) (.int .i64 fr)) (p := ⟨w.heap.size, 4, none⟩) (Nat.le_refl _) (.string dg)) (p := ⟨w.heap.size, 5, none⟩) (Nat.le_refl _) (.string bd)) (p := ⟨w.heap.size, 6, none⟩) (Nat.le_refl _) (.string mc))
    go_wp2_with fail
    generalize (((((((w6.setCell ⟨w.heap.size, 0, none⟩ (.int .i64 kd)).setCell ⟨w.heap.size, 1, none⟩ (.int .i64 vw)).setCell ⟨w.heap.size, 2, none⟩ (.int .i64 sq)).setCell ⟨w.heap.size, 3, none⟩ (.int .i64 fr)).setCell ⟨w.heap.size, 4, none⟩ (.string dg)).setCell ⟨w.heap.size, 5, none⟩ (.string bd)).setCell ⟨w.heap.size, 6, none⟩ (.string mc)) = wf at AF GF ⊢
    have d0 := (blk_cell AF 0 (x := .int .i64 kd) rfl).1
    have d1 := (blk_cell AF 1 (x := .int .i64 vw) rfl).1
    have d2 := (blk_cell AF 2 (x := .int .i64 sq) rfl).1
    have d3 := (blk_cell AF 3 (x := .int .i64 fr) rfl).1
    have d4 := (blk_cell AF 4 (x := .string dg) rfl).1
    have d5 := (blk_cell AF 5 (x := .string bd) rfl).1
    have d6 := (blk_cell AF 6 (x := .string mc) rfl).1
    refine bodyPost_ret (v := .tuple #[.agg #[.int .i64 kd, .int .i64 vw, .int .i64 sq, .int .i64 fr, .string dg, .string bd, .string mc], .int .i64 0]) (by simp [results, Try.results50, go_sem, d0, d1, d2, d3, d4, d5, d6]) rfl ⟨ret_val HN.out.symm, GF⟩
end Go.Proofs.Ytdeologdmdimoaa.Rr

/- The bytes of a text; what impl takes and what the specification reads are one. -/
namespace Go.Proofs.Ytdeologdmdimoaa.Of
open Go.RowKit Go.Proofs.Ytdeologdmdimoaa.Sl Go.Proofs.Ytdeologdmdimoaa.By Go.Proofs.Ytdeologdmdimoaa.Ap Go.Proofs.Ytdeologdmdimoaa.Rq Go.Proofs.Ytdeologdmdimoaa.Rr

theorem bys_str (xs : List Int) (h : ∀ x ∈ xs, 0 ≤ x ∧ x ≤ 255) : bys (strOfNums xs) = xs := by
  unfold bys
  rw [strOfNums_data, List.map_map]
  apply List.ext_getElem?
  intro i
  rw [List.getElem?_map]
  cases hx : xs[i]? with
  | none => rfl
  | some x =>
    have := h x (List.mem_of_getElem? hx)
    simp only [Option.map_some, Function.comp_apply]
    congr 1
    rw [UInt8.toNat_ofNat_of_lt' (by unfold UInt8.size; omega)]
    omega
theorem str_bys (s : ByteArray) : strOfNums (bys s) = s := by
  unfold bys strOfNums
  rw [List.map_map]
  have : ((fun n : Int => UInt8.ofNat n.toNat) ∘ fun b : UInt8 => ((b.toNat : Nat) : Int)) = id := by
    funext b
    simp
  rw [this, List.map_id]
theorem bys_ext (s : ByteArray) (a b : Nat) : bys (s.extract a b) = ((bys s).take b).drop a := by
  unfold bys
  rw [show (s.extract a b).data = s.data.extract a b from by simp [ByteArray.data_extract], Array.toList_extract, List.extract_eq_take_drop, List.map_take, List.map_drop, List.drop_take]
theorem bys_size (s : ByteArray) : s.size = (bys s).length := (bys_length s).symm

theorem tk_yes {n : Nat} {xs : List Int} (h : n ≤ xs.length) : tkB n xs = xs.take n ∧ tkR n xs = xs.drop n ∧ ∀ sh, tkS n xs sh = sh :=
  ⟨if_neg (by omega), if_neg (by omega), fun sh => by unfold tkS; simp; omega⟩
theorem tk_no {n : Nat} {xs : List Int} (h : xs.length < n) (sh : Bool) : tkS n xs sh = true := by unfold tkS; simp [h]
theorem tk_true (n : Nat) (xs : List Int) : tkS n xs true = true := rfl
theorem txt_true (n : Nat) (xs : List Int) : txtS n xs true = true := rfl
theorem be1 {xs : List Int} (h : 0 < xs.length) : beN (xs.take 1) = nth xs 0 := by
  cases xs with
  | nil => cases h
  | cons x xs => simp [beN, nth]
theorem short7 (xs : List Int) (h : xs.length < 7) : rqSh xs false = true := by
  match xs, h with
  | [], _ => rfl
  | [_], _ => rfl
  | [_, _], _ => rfl
  | [_, _, _], _ => rfl
  | [_, _, _, _], _ => rfl
  | [_, _, _, _, _], _ => rfl
  | [_, _, _, _, _, _], _ => rfl
theorem long7 (xs : List Int) (h : 7 ≤ xs.length) (_hr : ∀ x ∈ xs, 0 ≤ x ∧ x ≤ 255) :
    rqC xs = nth xs 0 ∧ rqS xs = beN ((xs.drop 1).take 2) ∧ rqK xs = nth xs 3 ∧ rqL xs = beN ((xs.drop 4).take 2) ∧ rqT xs = xs.drop 6 ∧ rqSh xs false = txtS 1 (xs.drop 6) false := by
  obtain ⟨a1, a2, a3⟩ := tk_yes (n := 1) (xs := xs) (by omega)
  obtain ⟨b1, b2, b3⟩ := tk_yes (n := 2) (xs := xs.drop 1) (by rw [List.length_drop]; omega)
  rw [List.drop_drop] at b2
  obtain ⟨c1, c2, c3⟩ := tk_yes (n := 1) (xs := xs.drop 3) (by rw [List.length_drop]; omega)
  rw [List.drop_drop] at c2
  obtain ⟨d1, d2, d3⟩ := tk_yes (n := 2) (xs := xs.drop 4) (by rw [List.length_drop]; omega)
  rw [List.drop_drop] at d2
  unfold rqC rqS rqK rqL rqSh rqT
  simp only [a1, a2, a3, b1, b2, b3, c1, c2, c3, d1, d2, d3, Nat.reduceAdd]
  refine ⟨be1 (by omega), trivial, ?_, trivial, trivial, trivial⟩
  rw [be1 (by rw [List.length_drop]; omega), nth_drop]
theorem txt1 (ys : List Int) (h : 0 < ys.length) (_hr : ∀ x ∈ ys, 0 ≤ x ∧ x ≤ 255) :
    txtN 1 ys = (nth ys 0).toNat ∧ tkR 1 ys = ys.drop 1 ∧ tkS 1 ys false = false := by
  obtain ⟨a1, a2, a3⟩ := tk_yes (n := 1) (xs := ys) (by omega)
  unfold txtN
  rw [a1, be1 h, a2, a3]
  exact ⟨rfl, rfl, rfl⟩
theorem str_at (xs : List Int) (hr : ∀ x ∈ xs, 0 ≤ x ∧ x ≤ 255) (i : Nat) (h : i < (strOfNums xs).size) : (((strOfNums xs)[i]'h).toNat : Int) = nth xs i := by
  rw [← bys_at _ i h, bys_str xs hr]
theorem eq_req_yes (xs : List Int) (hr : ∀ x ∈ xs, 0 ≤ x ∧ x ≤ 255) (h : 6 < (strOfNums xs).size) (hq : (strOfNums xs).size = 7 + ((strOfNums xs)[6]'h).toNat) :
    rqC xs = sC (strOfNums xs) ∧ rqS xs = sS (strOfNums xs) ∧ rqK xs = sK (strOfNums xs) ∧ rqL xs = sL (strOfNums xs) ∧ rqN xs = sN (strOfNums xs) ∧ rqSh xs false = false ∧ rqRest xs = [] := by
  have h6 := str_at xs hr 6 h
  have hz := strOfNums_size xs
  rw [hz] at h
  have hq' : (xs.length : Int) = 7 + nth xs 6 := by rw [← h6, ← hz]; omega
  have h60 := range_at hr 6
  obtain ⟨a1, a2, a3, a4, a5, a6⟩ := long7 xs (by omega) hr
  have hr6 : ∀ x ∈ xs.drop 6, 0 ≤ x ∧ x ≤ 255 := fun x hx => hr x (List.mem_of_mem_drop hx)
  obtain ⟨b1, b2, b3⟩ := txt1 (xs.drop 6) (by rw [List.length_drop]; omega) hr6
  rw [nth_drop] at b1
  rw [List.drop_drop] at b2
  have hl7 : (xs.drop (6 + 1)).length = (nth xs 6).toNat := by rw [List.length_drop]; omega
  obtain ⟨c1, c2, c3⟩ := tk_yes (n := (nth xs 6).toNat) (xs := xs.drop (6 + 1)) (by omega)
  have e7 : bys (strOfNums xs) = xs := bys_str xs hr
  refine ⟨?_, ?_, ?_, ?_, ?_, ?_, ?_⟩
  · rw [a1]; unfold sC; rw [e7]
  · rw [a2]; unfold sS; rw [bys_ext, e7, List.take_drop]
  · rw [a3]; unfold sK; rw [e7]
  · rw [a4]; unfold sL; rw [bys_ext, e7, List.take_drop]
  · unfold rqN txtB
    rw [a5, b1, b2, c1, List.take_of_length_le (by omega)]
    have := str_bys (sN (strOfNums xs))
    rw [← this]
    unfold sN
    rw [bys_ext, e7, hz, List.take_length]
  · rw [a6]; unfold txtS; rw [b1, b2, b3, c3]
  · unfold rqRest txtR; rw [a5, b1, b2, c2, List.drop_drop]; exact List.drop_eq_nil_of_le (by rw [List.length_drop] at hl7; omega)
theorem eq_req_no (xs : List Int) (hr : ∀ x ∈ xs, 0 ≤ x ∧ x ≤ 255) (hno : ∀ h : 6 < (strOfNums xs).size, (strOfNums xs).size ≠ 7 + ((strOfNums xs)[6]'h).toNat) (b : Bool) :
    (!rqSh xs false && ((rqRest xs).isEmpty && b)) = false := by
  have hz := strOfNums_size xs
  by_cases h7 : 7 ≤ xs.length
  · have h : 6 < (strOfNums xs).size := by omega
    have h6 := str_at xs hr 6 h
    have hq := hno h
    have hq' : (xs.length : Int) ≠ 7 + nth xs 6 := by rw [← h6, ← hz]; omega
    have h60 := range_at hr 6
    obtain ⟨a1, a2, a3, a4, a5, a6⟩ := long7 xs (by omega) hr
    have hr6 : ∀ x ∈ xs.drop 6, 0 ≤ x ∧ x ≤ 255 := fun x hx => hr x (List.mem_of_mem_drop hx)
    obtain ⟨b1, b2, b3⟩ := txt1 (xs.drop 6) (by rw [List.length_drop]; omega) hr6
    rw [nth_drop] at b1
    rw [List.drop_drop] at b2
    rw [a6]
    unfold rqRest txtR txtS
    rw [a5, b1, b2, b3]
    by_cases hlt : (xs.drop (6 + 1)).length < (nth xs 6).toNat
    · rw [tk_no hlt]; rfl
    · obtain ⟨c1, c2, c3⟩ := tk_yes (n := (nth xs 6).toNat) (xs := xs.drop (6 + 1)) (by omega)
      rw [c2, c3, List.drop_drop]
      have : (xs.drop (6 + 1 + (nth xs 6).toNat)).isEmpty = false := by
        rw [List.length_drop] at hlt
        cases he : xs.drop (6 + 1 + (nth xs 6).toNat) with
        | nil =>
          have := congrArg List.length he
          rw [List.length_drop] at this
          simp at this
          omega
        | cons y ys => rfl
      rw [this]
      rfl
  · rw [short7 xs (by omega)]
    rfl

theorem rqN_small (xs : List Int) (hx : xs.length ≤ 1048576) : (rqN xs).size ≤ maxLen := by
  have h1 : ∀ n (ys : List Int), (tkB n ys).length ≤ ys.length := by intro n ys; unfold tkB; split; simp; rw [List.length_take]; omega
  have h2 := h1 (txtN 1 (rqT xs)) (tkR 1 (rqT xs))
  have h3 := tkR_len 1 (rqT xs)
  have h4 : (rqT xs).length ≤ xs.length := Nat.le_trans (tkR_len _ _) (Nat.le_trans (tkR_len _ _) (Nat.le_trans (tkR_len _ _) (tkR_len _ _)))
  unfold rqN txtB maxLen
  rw [strOfNums_size]
  omega
/-- What both answer. -/
def readReq (xs : List Int) : Value := rjV zreq #[.int .i64 (rqC xs), .int .i64 (rqS xs), .int .i64 (rqK xs), .int .i64 (rqL xs), .string (rqN xs)] (decide (65536 < xs.length)) (!rqSh xs false && ((rqRest xs).isEmpty && reqB (rqC xs) (rqS xs) (rqK xs) (rqL xs) (rqN xs)))
theorem readReq_form (xs : List Int) : ∃ (c st k l : Int) (n : ByteArray) (code : Int), readReq xs = .tuple #[.agg #[.int .i64 c, .int .i64 st, .int .i64 k, .int .i64 l, .string n], .int .i64 code] := by
  unfold readReq rjV
  split
  · exact ⟨0, 0, 0, 0, ⟨#[]⟩, 2, rfl⟩
  · split
    · exact ⟨_, _, _, _, _, 0, rfl⟩
    · exact ⟨0, 0, 0, 0, ⟨#[]⟩, 3, rfl⟩

set_option maxHeartbeats 400000 in
theorem implReadRequest_any (v : Value) (xs : List Int) (w : World) (h : RowB w v xs) (hl : xs.length ≤ 1048576) :
    Calls Try.prog 20 #[v] w fun e w' => e = .returned (readReq xs) ∧ Below w.heap.size w w' := by
  obtain ⟨c, st, k, l, n, code, hf⟩ := readReq_form xs
  have HF : Hid (_ = _) := hf
  have h' := h
  obtain ⟨a, cap, rfl, _, _⟩ := h
  have HR : Hid (RowB w (.slice a xs.length cap) xs) := h'
  clear h' hf
  have HN : Hid (∀ _ : Unit, (rqN xs).size ≤ maxLen) := fun _ => rqN_small xs hl
  go_enter Try.func20, Try.ntmps20
  go_wp2_with fail
  refine (readJustReq_gen _ xs _ (HR.out.below ((Below.refl _ _).alloc (Nat.le_refl _) _)) hl (rqC xs) (rqS xs) (rqK xs) (rqL xs) (rqN xs) (rqRest xs) (rqSh xs false) (HN.out ()) (fun W p B h1 h2 h3 h4 => takeRequest_any p B xs false W h1 h2 h3 h4)).mono ?_
  rintro e w1 ⟨rfl, b1⟩
  rw [show rjV zreq #[.int .i64 (rqC xs), .int .i64 (rqS xs), .int .i64 (rqK xs), .int .i64 (rqL xs), .string (rqN xs)] (decide (65536 < xs.length)) (!rqSh xs false && ((rqRest xs).isEmpty && reqB (rqC xs) (rqS xs) (rqK xs) (rqL xs) (rqN xs))) = readReq xs from rfl, HF.out]
  have A1 : w1.heap[w.heap.size]? = some (.cells zreq 44 (0, 0)) := (b1.block w.heap.size (by simp)).trans (blk_new w zreq 44)
  have G1 := box_old (box_first b1)
  clear b1 HN HR
  obtain ⟨zc0, zf0⟩ := blk_cell A1 0 (x := .int .i64 0) rfl
  obtain ⟨zc1, zf1⟩ := blk_cell A1 1 (x := .int .i64 0) rfl
  obtain ⟨zc2, zf2⟩ := blk_cell A1 2 (x := .int .i64 0) rfl
  obtain ⟨zc3, zf3⟩ := blk_cell A1 3 (x := .int .i64 0) rfl
  obtain ⟨zc4, zf4⟩ := blk_cell A1 4 (x := .string ⟨#[]⟩) rfl
  have AF : (((((w1.setCell ⟨w.heap.size, 0, none⟩ (.int .i64 c)).setCell ⟨w.heap.size, 1, none⟩ (.int .i64 st)).setCell ⟨w.heap.size, 2, none⟩ (.int .i64 k)).setCell ⟨w.heap.size, 3, none⟩ (.int .i64 l)).setCell ⟨w.heap.size, 4, none⟩ (.string n)).heap[w.heap.size]? = some (.cells #[.int .i64 c, .int .i64 st, .int .i64 k, .int .i64 l, .string n] 44 (0, 0)) := (blk_set (blk_set (blk_set (blk_set (blk_set A1 0 (.int .i64 c)) 1 (.int .i64 st)) 2 (.int .i64 k)) 3 (.int .i64 l)) 4 (.string n))
  have GF : Below w.heap.size w (((((w1.setCell ⟨w.heap.size, 0, none⟩ (.int .i64 c)).setCell ⟨w.heap.size, 1, none⟩ (.int .i64 st)).setCell ⟨w.heap.size, 2, none⟩ (.int .i64 k)).setCell ⟨w.heap.size, 3, none⟩ (.int .i64 l)).setCell ⟨w.heap.size, 4, none⟩ (.string n)) := (Below.setCell (Below.setCell (Below.setCell (Below.setCell (Below.setCell G1 (p := ⟨w.heap.size, 0, none⟩) (Nat.le_refl _) (.int .i64 c)) (p := ⟨w.heap.size, 1, none⟩) (Nat.le_refl _) (.int .i64 st)) (p := ⟨w.heap.size, 2, none⟩) (Nat.le_refl _) (.int .i64 k)) (p := ⟨w.heap.size, 3, none⟩) (Nat.le_refl _) (.int .i64 l)) (p := ⟨w.heap.size, 4, none⟩) (Nat.le_refl _) (.string n))
  go_wp2_with fail
  generalize (((((w1.setCell ⟨w.heap.size, 0, none⟩ (.int .i64 c)).setCell ⟨w.heap.size, 1, none⟩ (.int .i64 st)).setCell ⟨w.heap.size, 2, none⟩ (.int .i64 k)).setCell ⟨w.heap.size, 3, none⟩ (.int .i64 l)).setCell ⟨w.heap.size, 4, none⟩ (.string n)) = wf at AF GF ⊢
  have d0 := (blk_cell AF 0 (x := .int .i64 c) rfl).1
  have d1 := (blk_cell AF 1 (x := .int .i64 st) rfl).1
  have d2 := (blk_cell AF 2 (x := .int .i64 k) rfl).1
  have d3 := (blk_cell AF 3 (x := .int .i64 l) rfl).1
  have d4 := (blk_cell AF 4 (x := .string n) rfl).1
  refine bodyPost_ret (v := .tuple #[.agg #[.int .i64 c, .int .i64 st, .int .i64 k, .int .i64 l, .string n], .int .i64 code]) (by simp [results, Try.results20, go_sem, d0, d1, d2, d3, d4]) rfl ⟨ret_val HF.out.symm, GF⟩

end Go.Proofs.Ytdeologdmdimoaa.Of
