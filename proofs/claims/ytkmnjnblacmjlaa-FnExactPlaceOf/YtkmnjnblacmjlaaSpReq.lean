/- The specification's ReadRequest. -/
import Derived.Test.YtkmnjnblacmjlaaOf
import Derived.Test.YtkmnjnblacmjlaaQt
import Derived.Deep.CutRange
import Derived.Deep.DeepCutAuto
namespace Go.Proofs.Ytkmnjnblacmjlaa.Of
open Go.RowKit Go.Proofs.Ytkmnjnblacmjlaa.Sl Go.Proofs.Ytkmnjnblacmjlaa.By Go.Proofs.Ytkmnjnblacmjlaa.Ap Go.Proofs.Ytkmnjnblacmjlaa.Rq Go.Proofs.Ytkmnjnblacmjlaa.Rr

theorem ext_size (s : ByteArray) (a b : Nat) : (s.extract a b).size = min b s.size - a := by simp [ByteArray.size_extract]
theorem ext_small (s : ByteArray) (a b : Nat) (h : b ≤ a + 4) : (s.extract a b).size ≤ 4 := by rw [ext_size]; omega

/-- The request that a text tells, as the specification reads it. -/
def sC (s : ByteArray) : Int := nth (bys s) 0
def sS (s : ByteArray) : Int := beN (bys (s.extract 1 3))
def sK (s : ByteArray) : Int := nth (bys s) 3
def sL (s : ByteArray) : Int := beN (bys (s.extract 4 6))
def sN (s : ByteArray) : ByteArray := s.extract 7 s.size
theorem wrap_small (n : Nat) (h : n < 2 ^ 8) : IntKind.i64.wrap (n : Int) = (n : Int) := by rw [IntKind.wrap_i64]; omega
theorem fin3 {w : World} {A B : Array Value} (h : A = B) : ((w.alloc (.cells zreq 32)).alloc (.cells A 32)).drew.heap[w.heap.size]? = some (.cells zreq 32 (0, 0)) ∧
    ((w.alloc (.cells zreq 32)).alloc (.cells A 32)).drew.heap[w.heap.size + 1]? = some (.cells B 32 (0, 0)) ∧ Below w.heap.size w ((w.alloc (.cells zreq 32)).alloc (.cells A 32)).drew := by
  subst h
  refine ⟨(Below.heap_alloc _ _ _ (by simp)).trans (blk_new _ _ _), ?_, (((Below.refl _ _).alloc (Nat.le_refl _) _).alloc (by simp) _).drew⟩
  have := blk_new (w.alloc (.cells zreq 32)) A 32
  rw [size_new] at this
  exact this
set_option maxRecDepth 100000 in
set_option maxHeartbeats 1600000 in
theorem l02ReadRequest_yes (s : ByteArray) (w : World) (hs : s.size ≤ 65536) (h7 : 6 < s.size) (hq : s.size = 7 + (s[6]'h7).toNat) :
    Calls Try.prog 15 #[.string s] w fun e w' => e = .returned (.tuple #[.agg #[.int .i64 (sC s), .int .i64 (sS s), .int .i64 (sK s), .int .i64 (sL s), .string (sN s)], .bool (reqB (sC s) (sS s) (sK s) (sL s) (sN s))]) ∧ Below w.heap.size w w' := by
  have h6 : (7 : Int) ≤ (s.size : Int) := by omega
  have j3 : (3 : Int) ≤ (s.size : Int) := by omega
  have k3 : (3 : Int) < (s.size : Int) := by omega
  have j6 : (6 : Int) ≤ (s.size : Int) := by omega
  have i0 : 0 < s.size := by omega
  have i3 : 3 < s.size := by omega
  have hb := (s[6]'h7).toNat_lt
  have hne : ((s.size : Int) != (7 : Int) + ((s[6]'h7).toNat : Int)) = false := by simp; omega
  have hs' : (s.size : Int) ≤ 65536 := by omega
  have e1 := ext_small s 1 3 (by decide)
  have e2 := ext_small s 4 6 (by decide)
  have E1 : Hid (∀ _ : Unit, (s.extract 1 3).size ≤ 4) := fun _ => e1
  have E2 : Hid (∀ _ : Unit, (s.extract 4 6).size ≤ 4) := fun _ => e2
  have E3 : Hid (∀ _ : Unit, (sN s).size ≤ maxLen) := fun _ => by unfold sN maxLen; rw [ext_size]; omega
  have HV : Hid ((#[.int .i64 (IntKind.i64.wrap ((s[0]'i0).toNat : Int)), .int .i64 (beN (bys (s.extract 1 3))), .int .i64 (IntKind.i64.wrap ((s[3]'i3).toNat : Int)), .int .i64 (beN (bys (s.extract 4 6))), .string (s.extract 7 s.size)] : Array Value) = #[.int .i64 (sC s), .int .i64 (sS s), .int .i64 (sK s), .int .i64 (sL s), .string (sN s)]) := by
    show _ = _
    have b0 := (s[0]'i0).toNat_lt
    have b3 := (s[3]'i3).toNat_lt
    rw [show sC s = _ from bys_at s 0 i0, show sK s = _ from bys_at s 3 i3, wrap_small _ b0, wrap_small _ b3]
    rfl
  clear hq e1 e2
  go_enter Try.func15, Try.ntmps15
  go_upto_region 3 with fail
  go_cut [4] (fun s4 wx => s4 = .pointer (some ⟨w.heap.size + 1, 0, none⟩) ∧ wx.heap[w.heap.size]? = some (.cells zreq 32 (0, 0)) ∧ wx.heap[w.heap.size + 1]? = some (.cells #[.int .i64 (sC s), .int .i64 (sS s), .int .i64 (sK s), .int .i64 (sL s), .string (sN s)] 32 (0, 0)) ∧ Below w.heap.size w wx)
  case first =>
    refine wp_region_any (by kernel_rfl) ?_
    change wpAny _ _ _ _ _ _ _ (World.drew _)
    refine wpAny_take (i := 0) (v := ?v1) rfl (by kernel_rfl) (by kernel_rfl) (by kernel_rfl) (fun _ _ _ h => h) (Or.inl ⟨by rfl, ?h1⟩) ?r1
    case h1 => intro wz; go_simp; try (with_reducible rfl)
    refine wpAny_take (i := 1) (v := ?v2) rfl (by kernel_rfl) (by kernel_rfl) (by kernel_rfl) (fun _ _ _ h => h) (Or.inl ⟨by rfl, ?h2⟩) ?r2
    case h2 => intro wz; go_simp; try (with_reducible rfl)
    refine wpAny_take (i := 2) (v := ?v3) rfl (by kernel_rfl) (by kernel_rfl) (by kernel_rfl) (fun _ _ _ h => h) (Or.inl ⟨by rfl, ?h3⟩) ?r3
    case h3 => intro wz; go_simp; try (with_reducible rfl)
    refine wpAny_take (i := 3) (v := ?v4) rfl (by kernel_rfl) (by kernel_rfl) (by kernel_rfl) (fun _ _ _ h => h) (Or.inl ⟨by rfl, ?h4⟩) ?r4
    case h4 => intro wz; go_simp; try (with_reducible rfl)
    refine wpAny_take (i := 4) (v := ?v5) rfl (by kernel_rfl) (by kernel_rfl) (by kernel_rfl) (fun _ _ _ h => h) (Or.inl ⟨by rfl, ?h5⟩) ?r5
    case h5 => intro wz; go_simp; try (with_reducible rfl)
    refine wpAny_take (i := 6) (v := ?v6) rfl (by kernel_rfl) (by kernel_rfl) (by kernel_rfl) (fun _ _ _ h => h) (Or.inl ⟨by rfl, ?h6⟩) ?r6
    case h6 => intro wz; go_simp; try (with_reducible rfl)
    refine wpAny_take (i := 7) (v := ?v7) rfl (by kernel_rfl) (by kernel_rfl) (by kernel_rfl) (fun _ _ _ h => h) (Or.inl ⟨by rfl, ?h7⟩) ?r7
    case h7 => intro wz; go_simp; try (with_reducible rfl)
    refine wpAny_take (i := 8) (v := ?v8) rfl (by kernel_rfl) (by kernel_rfl) (by kernel_rfl) (fun _ _ _ h => h) (Or.inl ⟨by rfl, ?h8⟩) ?r8
    case h8 => intro wz; go_simp; try (with_reducible rfl)
    refine wpAny_take (i := 9) (v := ?v9) rfl (by kernel_rfl) (by kernel_rfl) (by kernel_rfl) (fun _ _ _ h => h) (Or.inl ⟨by rfl, ?h9⟩) ?r9
    case h9 => intro wz; go_simp; try (with_reducible rfl)
    refine wpAny_take (i := 10) (v := ?v10) rfl (by kernel_rfl) (by kernel_rfl) (by kernel_rfl) (fun _ _ _ h => h) (Or.inl ⟨by rfl, ?h10⟩) ?r10
    case h10 => intro wz; go_simp; try (with_reducible rfl)
    refine wpAny_take (i := 12) (v := ?v11) rfl (by kernel_rfl) (by kernel_rfl) (by kernel_rfl) (fun _ _ _ h => h) (Or.inl ⟨by rfl, ?h11⟩) ?r11
    case h11 => intro wz; go_simp; try (with_reducible rfl)
    refine wpAny_take (i := 13) (v := ?v12) rfl (by kernel_rfl) (by kernel_rfl) (by kernel_rfl) (fun _ _ _ h => h) (Or.inl ⟨by rfl, ?h12⟩) ?r12
    case h12 => intro wz; go_simp; try (with_reducible rfl)
    refine wpAny_ready (rs := [5, 15]) (by kernel_rfl) (by simp) ?_
    refine AllReady.cons rfl (fun K hK => ?_) ?_
    · go_simp
      refine (l02Of_any (s.extract 1 3) _ (E1.out ())).mono ?_
      rintro e w' ⟨rfl, rfl⟩
      refine hK _ _ ?_
      clear hK K
      refine wpAny_ready (rs := [11, 15]) (by kernel_rfl) (by simp) ?_
      refine AllReady.cons rfl (fun K hK => ?_) ?_
      · go_simp
        refine (l02Of_any (s.extract 4 6) _ (E2.out ())).mono ?_
        rintro e w' ⟨rfl, rfl⟩
        refine hK _ _ ?_
        clear hK K
        refine wpAny_take (i := 14) (v := ?v13) rfl (by kernel_rfl) (by kernel_rfl) (by kernel_rfl) (fun _ _ _ h => h) (Or.inl ⟨by rfl, ?h13⟩) ?r13
        case h13 => intro wz; go_simp; try (with_reducible rfl)
        refine wpAny_ready (rs := [15]) (by kernel_rfl) (by simp) ?_
        refine AllReady.cons rfl (fun K hK => ?_) AllReady.nil
        go_simp
        refine hK _ _ ?_
        clear hK K
        refine wpAny_ready (rs := [16]) (by kernel_rfl) (by simp) ?_
        refine AllReady.cons rfl (fun K hK => ?_) AllReady.nil
        go_simp
        refine hK _ _ ?_
        clear hK K
        refine wpAny_done (by kernel_rfl) ?_ _
        go_wp2_with fail
        go_meet
        exact ⟨rfl, fin3 HV.out⟩
      refine AllReady.cons rfl (fun K hK => ?_) AllReady.nil
      go_simp
      refine hK _ _ ?_
      clear hK K
      refine wpAny_ready (rs := [11]) (by kernel_rfl) (by simp) ?_
      refine AllReady.cons rfl (fun K hK => ?_) AllReady.nil
      go_simp
      refine (l02Of_any (s.extract 4 6) _ (E2.out ())).mono ?_
      rintro e w' ⟨rfl, rfl⟩
      refine hK _ _ ?_
      clear hK K
      refine wpAny_take (i := 14) (v := ?v14) rfl (by kernel_rfl) (by kernel_rfl) (by kernel_rfl) (fun _ _ _ h => h) (Or.inl ⟨by rfl, ?h14⟩) ?r14
      case h14 => intro wz; go_simp; try (with_reducible rfl)
      refine wpAny_ready (rs := [16]) (by kernel_rfl) (by simp) ?_
      refine AllReady.cons rfl (fun K hK => ?_) AllReady.nil
      go_simp
      refine hK _ _ ?_
      clear hK K
      refine wpAny_done (by kernel_rfl) ?_ _
      go_wp2_with fail
      go_meet
      exact ⟨rfl, fin3 HV.out⟩
    refine AllReady.cons rfl (fun K hK => ?_) AllReady.nil
    go_simp
    refine hK _ _ ?_
    clear hK K
    refine wpAny_ready (rs := [5]) (by kernel_rfl) (by simp) ?_
    refine AllReady.cons rfl (fun K hK => ?_) AllReady.nil
    go_simp
    refine (l02Of_any (s.extract 1 3) _ (E1.out ())).mono ?_
    rintro e w' ⟨rfl, rfl⟩
    refine hK _ _ ?_
    clear hK K
    refine wpAny_ready (rs := [11]) (by kernel_rfl) (by simp) ?_
    refine AllReady.cons rfl (fun K hK => ?_) AllReady.nil
    go_simp
    refine (l02Of_any (s.extract 4 6) _ (E2.out ())).mono ?_
    rintro e w' ⟨rfl, rfl⟩
    refine hK _ _ ?_
    clear hK K
    refine wpAny_take (i := 14) (v := ?v15) rfl (by kernel_rfl) (by kernel_rfl) (by kernel_rfl) (fun _ _ _ h => h) (Or.inl ⟨by rfl, ?h15⟩) ?r15
    case h15 => intro wz; go_simp; try (with_reducible rfl)
    refine wpAny_ready (rs := [16]) (by kernel_rfl) (by simp) ?_
    refine AllReady.cons rfl (fun K hK => ?_) AllReady.nil
    go_simp
    refine hK _ _ ?_
    clear hK K
    refine wpAny_done (by kernel_rfl) ?_ _
    go_wp2_with fail
    go_meet
    exact ⟨rfl, fin3 HV.out⟩
  case rest =>
  obtain ⟨rfl, A1, X1, G1⟩ := hcut
  have xc0 := (blk_cell X1 0 (x := .int .i64 (sC s)) rfl).1; have xc1 := (blk_cell X1 1 (x := .int .i64 (sS s)) rfl).1; have xc2 := (blk_cell X1 2 (x := .int .i64 (sK s)) rfl).1; have xc3 := (blk_cell X1 3 (x := .int .i64 (sL s)) rfl).1; have xc4 := (blk_cell X1 4 (x := .string (sN s)) rfl).1
  clear j3 k3 j6 i0 i3 hb hne h6 hs' HV
  go_upto_region 4 with fail
  have A1d : wc.drew.heap[w.heap.size]? = some (.cells zreq 32 (0, 0)) := A1
  have X1d : wc.drew.heap[w.heap.size + 1]? = some (.cells #[.int .i64 (sC s), .int .i64 (sS s), .int .i64 (sK s), .int .i64 (sL s), .string (sN s)] 32 (0, 0)) := X1
  have hd1 : w.heap.size + 1 < wc.drew.heap.size := (Array.getElem?_eq_some_iff.1 X1d).1
  have G1d : Below w.heap.size w wc.drew := G1.drew
  have HA1 : Hid (_ ∧ _ ∧ _ ∧ _) := ⟨A1d, X1d, hd1, G1d⟩
  clear A1d X1d hd1 G1d A1 X1 G1
  go_region_with (go_at_call 19; refine (specRequestOK_any (sC s) (sS s) (sK s) (sL s) (sN s) _ (E3.out ())).mono ?_; rintro e w6 ⟨rfl, b6⟩; have A6 := (b6.block w.heap.size (Nat.lt_of_succ_lt HA1.out.2.2.1)).trans HA1.out.1; have X6 := (b6.block (w.heap.size + 1) HA1.out.2.2.1).trans HA1.out.2.1; have G6 : Below w.heap.size w w6 := HA1.out.2.2.2.trans (b6.mono HA1.out.2.2.2.size); clear b6; obtain ⟨zc0, zf0⟩ := blk_cell A6 0 (x := .int .i64 0) rfl; obtain ⟨zc1, zf1⟩ := blk_cell A6 1 (x := .int .i64 0) rfl; obtain ⟨zc2, zf2⟩ := blk_cell A6 2 (x := .int .i64 0) rfl; obtain ⟨zc3, zf3⟩ := blk_cell A6 3 (x := .int .i64 0) rfl; obtain ⟨zc4, zf4⟩ := blk_cell A6 4 (x := .string ⟨#[]⟩) rfl; have yc0 := (blk_cell X6 0 (x := .int .i64 (sC s)) rfl).1; have yc1 := (blk_cell X6 1 (x := .int .i64 (sS s)) rfl).1; have yc2 := (blk_cell X6 2 (x := .int .i64 (sK s)) rfl).1; have yc3 := (blk_cell X6 3 (x := .int .i64 (sL s)) rfl).1; have yc4 := (blk_cell X6 4 (x := .string (sN s)) rfl).1)
  all_goals
    have AF : (((((w6.setCell ⟨w.heap.size, 0, none⟩ (.int .i64 (sC s))).setCell ⟨w.heap.size, 1, none⟩ (.int .i64 (sS s))).setCell ⟨w.heap.size, 2, none⟩ (.int .i64 (sK s))).setCell ⟨w.heap.size, 3, none⟩ (.int .i64 (sL s))).setCell ⟨w.heap.size, 4, none⟩ (.string (sN s))).heap[w.heap.size]? = some (.cells #[.int .i64 (sC s), .int .i64 (sS s), .int .i64 (sK s), .int .i64 (sL s), .string (sN s)] 32 (0, 0)) := (blk_set (blk_set (blk_set (blk_set (blk_set A6 0 (.int .i64 (sC s))) 1 (.int .i64 (sS s))) 2 (.int .i64 (sK s))) 3 (.int .i64 (sL s))) 4 (.string (sN s)))
    have GF : Below w.heap.size w (((((w6.setCell ⟨w.heap.size, 0, none⟩ (.int .i64 (sC s))).setCell ⟨w.heap.size, 1, none⟩ (.int .i64 (sS s))).setCell ⟨w.heap.size, 2, none⟩ (.int .i64 (sK s))).setCell ⟨w.heap.size, 3, none⟩ (.int .i64 (sL s))).setCell ⟨w.heap.size, 4, none⟩ (.string (sN s))) := (Below.setCell (Below.setCell (Below.setCell (Below.setCell (Below.setCell G6 (p := ⟨w.heap.size, 0, none⟩) (Nat.le_refl _) (.int .i64 (sC s))) (p := ⟨w.heap.size, 1, none⟩) (Nat.le_refl _) (.int .i64 (sS s))) (p := ⟨w.heap.size, 2, none⟩) (Nat.le_refl _) (.int .i64 (sK s))) (p := ⟨w.heap.size, 3, none⟩) (Nat.le_refl _) (.int .i64 (sL s))) (p := ⟨w.heap.size, 4, none⟩) (Nat.le_refl _) (.string (sN s)))
    go_wp2_with fail
    generalize (((((w6.setCell ⟨w.heap.size, 0, none⟩ (.int .i64 (sC s))).setCell ⟨w.heap.size, 1, none⟩ (.int .i64 (sS s))).setCell ⟨w.heap.size, 2, none⟩ (.int .i64 (sK s))).setCell ⟨w.heap.size, 3, none⟩ (.int .i64 (sL s))).setCell ⟨w.heap.size, 4, none⟩ (.string (sN s))) = wf at AF GF ⊢
    have d0 := (blk_cell AF 0 (x := .int .i64 (sC s)) rfl).1
    have d1 := (blk_cell AF 1 (x := .int .i64 (sS s)) rfl).1
    have d2 := (blk_cell AF 2 (x := .int .i64 (sK s)) rfl).1
    have d3 := (blk_cell AF 3 (x := .int .i64 (sL s)) rfl).1
    have d4 := (blk_cell AF 4 (x := .string (sN s)) rfl).1
    refine bodyPost_ret (v := .tuple #[.agg #[.int .i64 (sC s), .int .i64 (sS s), .int .i64 (sK s), .int .i64 (sL s), .string (sN s)], .bool (reqB (sC s) (sS s) (sK s) (sL s) (sN s))]) (by simp [results, Try.results15, go_sem, d0, d1, d2, d3, d4]) rfl ⟨rfl, GF⟩

theorem l02ReadRequest_no (s : ByteArray) (w : World) (hs : s.size ≤ 65536) (hno : ∀ h : 6 < s.size, s.size ≠ 7 + (s[6]'h).toNat) :
    Calls Try.prog 15 #[.string s] w fun e w' => e = .returned (.tuple #[.agg zreq, .bool false]) ∧ Below w.heap.size w w' := by
  by_cases h7 : 6 < s.size
  · have hq := hno h7
    have h6 : (7 : Int) ≤ (s.size : Int) := by omega
    have hb := (s[6]'h7).toNat_lt
    have hne : ((s.size : Int) != (7 : Int) + ((s[6]'h7).toNat : Int)) = true := by rw [bne_iff_ne]; omega
    clear hno hq
    go_enter Try.func15, Try.ntmps15
    go_wp2_with fail
    refine bodyPost_ret (v := .tuple #[.agg zreq, .bool false]) (by simp [zreq, results, Try.results15, go_sem]) rfl ⟨rfl, (Below.refl _ _).alloc (Nat.le_refl _) _⟩
  · have h6 : (s.size : Int) < 7 := by omega
    clear hno
    go_enter Try.func15, Try.ntmps15
    go_wp2_with fail
    refine bodyPost_ret (v := .tuple #[.agg zreq, .bool false]) (by simp [zreq, results, Try.results15, go_sem]) rfl ⟨rfl, (Below.refl _ _).alloc (Nat.le_refl _) _⟩
end Go.Proofs.Ytkmnjnblacmjlaa.Of
