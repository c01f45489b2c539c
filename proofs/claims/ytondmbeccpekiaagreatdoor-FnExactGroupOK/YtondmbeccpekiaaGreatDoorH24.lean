/- Texts put together: SpReq, RdReq. -/
import Derived.Test.YtondmbeccpekiaaGreatDoorH23
import Derived.Test.YtondmbeccpekiaaGreatDoorH13
import Derived.Deep.CutRange
import Derived.Deep.DeepCutAuto
import Derived.Test.YtondmbeccpekiaaGreatDoorH4
import Derived.Test.YtondmbeccpekiaaGreatDoorH8
/- The specification's ReadRequest. -/
namespace Go.Proofs.YtondmbeccpekiaaGreatDoor.Of
open Go.RowKit Go.Proofs.YtondmbeccpekiaaGreatDoor.Sl Go.Proofs.YtondmbeccpekiaaGreatDoor.By Go.Proofs.YtondmbeccpekiaaGreatDoor.Ap Go.Proofs.YtondmbeccpekiaaGreatDoor.Rq Go.Proofs.YtondmbeccpekiaaGreatDoor.Rr

theorem ext_size (s : ByteArray) (a b : Nat) : (s.extract a b).size = min b s.size - a := by simp [ByteArray.size_extract]
theorem ext_small (s : ByteArray) (a b : Nat) (h : b ≤ a + 4) : (s.extract a b).size ≤ 4 := by rw [ext_size]; omega

def sC (s : ByteArray) : Int := nth (bys s) 0
def sS (s : ByteArray) : Int := beN (bys (s.extract 1 3))
def sK (s : ByteArray) : Int := nth (bys s) 3
def sL (s : ByteArray) : Int := beN (bys (s.extract 4 6))
def sN (s : ByteArray) : ByteArray := s.extract 7 s.size
theorem wrap_small (n : Nat) (h : n < 2 ^ 8) : IntKind.i64.wrap (n : Int) = (n : Int) := by rw [IntKind.wrap_i64]; omega
theorem fin3 {w : World} {A B : Array Value} (h : A = B) : ((w.alloc (.cells zreq 126)).alloc (.cells A 126)).drew.heap[w.heap.size]? = some (.cells zreq 126 (0, 0)) ∧
    ((w.alloc (.cells zreq 126)).alloc (.cells A 126)).drew.heap[w.heap.size + 1]? = some (.cells B 126 (0, 0)) ∧ Below w.heap.size w ((w.alloc (.cells zreq 126)).alloc (.cells A 126)).drew := by
  subst h
  refine ⟨(Below.heap_alloc _ _ _ (by simp)).trans (blk_new _ _ _), ?_, (((Below.refl _ _).alloc (Nat.le_refl _) _).alloc (by simp) _).drew⟩
  have := blk_new (w.alloc (.cells zreq 126)) A 126
  rw [size_new] at this
  exact this
set_option maxRecDepth 100000 in
set_option maxHeartbeats 1600000 in
theorem l02ReadRequest_yes (s : ByteArray) (w : World) (hs : s.size ≤ 65536) (h7 : 6 < s.size) (hq : s.size = 7 + (s[6]'h7).toNat) :
    Calls Tryz.prog 116 #[.string s] w fun e w' => e = .returned (.tuple #[.agg #[.int .i64 (sC s), .int .i64 (sS s), .int .i64 (sK s), .int .i64 (sL s), .string (sN s)], .bool (reqB (sC s) (sS s) (sK s) (sL s) (sN s))]) ∧ Below w.heap.size w w' := by
  have h6 : (7 : Int) ≤ (s.size : Int) := by omega
  have j3 : (3 : Int) ≤ (s.size : Int) := by omega
  have k3 : (3 : Int) < (s.size : Int) := by omega
  have j6 : (6 : Int) ≤ (s.size : Int) := by omega
  have i0 : 0 < s.size := by omega
  have i3 : 3 < s.size := by omega
  have hb := (s[6]'h7).toNat_lt
  have hne : ((s.size : Int) != (7 : Int) + ((s[6]'h7).toNat : Int)) = false := by simp; omega
  have hs' : (s.size : Int) ≤ 65536 := by omega
  have e1 := ext_small s 1 3 (by decide)
  have e2 := ext_small s 4 6 (by decide)
  have E1 : Hid (∀ _ : Unit, (s.extract 1 3).size ≤ 4) := fun _ => e1
  have E2 : Hid (∀ _ : Unit, (s.extract 4 6).size ≤ 4) := fun _ => e2
  have E3 : Hid (∀ _ : Unit, (sN s).size ≤ maxLen) := fun _ => by unfold sN maxLen; rw [ext_size]; omega
  have HV : Hid ((#[.int .i64 (IntKind.i64.wrap ((s[0]'i0).toNat : Int)), .int .i64 (beN (bys (s.extract 1 3))), .int .i64 (IntKind.i64.wrap ((s[3]'i3).toNat : Int)), .int .i64 (beN (bys (s.extract 4 6))), .string (s.extract 7 s.size)] : Array Value) = #[.int .i64 (sC s), .int .i64 (sS s), .int .i64 (sK s), .int .i64 (sL s), .string (sN s)]) := by
    show _ = _
    have b0 := (s[0]'i0).toNat_lt
    have b3 := (s[3]'i3).toNat_lt
    rw [show sC s = _ from bys_at s 0 i0, show sK s = _ from bys_at s 3 i3, wrap_small _ b0, wrap_small _ b3]
    rfl
  clear hq e1 e2
  go_enter Tryz.func116, Tryz.ntmps116
  go_upto_region 3 with fail
  go_cut [4] (fun s4 wx => s4 = .pointer (some ⟨w.heap.size + 1, 0, none⟩) ∧ wx.heap[w.heap.size]? = some (.cells zreq 126 (0, 0)) ∧ wx.heap[w.heap.size + 1]? = some (.cells #[.int .i64 (sC s), .int .i64 (sS s), .int .i64 (sK s), .int .i64 (sL s), .string (sN s)] 126 (0, 0)) ∧ Below w.heap.size w wx)
  case first =>
    refine wp_region_any (by kernel_rfl) ?_
    change wpAny _ _ _ _ _ _ _ (World.drew _)
    refine wpAny_take (i := 0) (v := ?v1) rfl (by kernel_rfl) (by kernel_rfl) (by kernel_rfl) (fun _ _ _ h => h) (Or.inl ⟨by rfl, ?h1⟩) ?r1
    case h1 => intro wz; go_simp; try (with_reducible rfl)
    refine wpAny_take (i := 1) (v := ?v2) rfl (by kernel_rfl) (by kernel_rfl) (by kernel_rfl) (fun _ _ _ h => h) (Or.inl ⟨by rfl, ?h2⟩) ?r2
    case h2 => intro wz; go_simp; try (with_reducible rfl)
    refine wpAny_take (i := 2) (v := ?v3) rfl (by kernel_rfl) (by kernel_rfl) (by kernel_rfl) (fun _ _ _ h => h) (Or.inl ⟨by rfl, ?h3⟩) ?r3
    case h3 => intro wz; go_simp; try (with_reducible rfl)
    refine wpAny_take (i := 3) (v := ?v4) rfl (by kernel_rfl) (by kernel_rfl) (by kernel_rfl) (fun _ _ _ h => h) (Or.inl ⟨by rfl, ?h4⟩) ?r4
    case h4 => intro wz; go_simp; try (with_reducible rfl)
    refine wpAny_take (i := 4) (v := ?v5) rfl (by kernel_rfl) (by kernel_rfl) (by kernel_rfl) (fun _ _ _ h => h) (Or.inl ⟨by rfl, ?h5⟩) ?r5
    case h5 => intro wz; go_simp; try (with_reducible rfl)
    refine wpAny_take (i := 6) (v := ?v6) rfl (by kernel_rfl) (by kernel_rfl) (by kernel_rfl) (fun _ _ _ h => h) (Or.inl ⟨by rfl, ?h6⟩) ?r6
    case h6 => intro wz; go_simp; try (with_reducible rfl)
    refine wpAny_take (i := 7) (v := ?v7) rfl (by kernel_rfl) (by kernel_rfl) (by kernel_rfl) (fun _ _ _ h => h) (Or.inl ⟨by rfl, ?h7⟩) ?r7
    case h7 => intro wz; go_simp; try (with_reducible rfl)
    refine wpAny_take (i := 8) (v := ?v8) rfl (by kernel_rfl) (by kernel_rfl) (by kernel_rfl) (fun _ _ _ h => h) (Or.inl ⟨by rfl, ?h8⟩) ?r8
    case h8 => intro wz; go_simp; try (with_reducible rfl)
    refine wpAny_take (i := 9) (v := ?v9) rfl (by kernel_rfl) (by kernel_rfl) (by kernel_rfl) (fun _ _ _ h => h) (Or.inl ⟨by rfl, ?h9⟩) ?r9
    case h9 => intro wz; go_simp; try (with_reducible rfl)
    refine wpAny_take (i := 10) (v := ?v10) rfl (by kernel_rfl) (by kernel_rfl) (by kernel_rfl) (fun _ _ _ h => h) (Or.inl ⟨by rfl, ?h10⟩) ?r10
    case h10 => intro wz; go_simp; try (with_reducible rfl)
    refine wpAny_take (i := 12) (v := ?v11) rfl (by kernel_rfl) (by kernel_rfl) (by kernel_rfl) (fun _ _ _ h => h) (Or.inl ⟨by rfl, ?h11⟩) ?r11
    case h11 => intro wz; go_simp; try (with_reducible rfl)
    refine wpAny_take (i := 13) (v := ?v12) rfl (by kernel_rfl) (by kernel_rfl) (by kernel_rfl) (fun _ _ _ h => h) (Or.inl ⟨by rfl, ?h12⟩) ?r12
    case h12 => intro wz; go_simp; try (with_reducible rfl)
    refine wpAny_ready (rs := [5, 15]) (by kernel_rfl) (by simp) ?_
    refine AllReady.cons rfl (fun K hK => ?_) ?_
    · go_simp
      refine (l02Of_any (s.extract 1 3) _ (E1.out ())).mono ?_
      rintro e w' ⟨rfl, rfl⟩
      refine hK _ _ ?_
      clear hK K
      refine wpAny_ready (rs := [11, 15]) (by kernel_rfl) (by simp) ?_
      refine AllReady.cons rfl (fun K hK => ?_) ?_
      · go_simp
        refine (l02Of_any (s.extract 4 6) _ (E2.out ())).mono ?_
        rintro e w' ⟨rfl, rfl⟩
        refine hK _ _ ?_
        clear hK K
        refine wpAny_take (i := 14) (v := ?v13) rfl (by kernel_rfl) (by kernel_rfl) (by kernel_rfl) (fun _ _ _ h => h) (Or.inl ⟨by rfl, ?h13⟩) ?r13
        case h13 => intro wz; go_simp; try (with_reducible rfl)
        refine wpAny_ready (rs := [15]) (by kernel_rfl) (by simp) ?_
        refine AllReady.cons rfl (fun K hK => ?_) AllReady.nil
        go_simp
        refine hK _ _ ?_
        clear hK K
        refine wpAny_ready (rs := [16]) (by kernel_rfl) (by simp) ?_
        refine AllReady.cons rfl (fun K hK => ?_) AllReady.nil
        go_simp
        refine hK _ _ ?_
        clear hK K
        refine wpAny_done (by kernel_rfl) ?_ _
        go_wp2_with fail
        go_meet
        exact ⟨rfl, fin3 HV.out⟩
      refine AllReady.cons rfl (fun K hK => ?_) AllReady.nil
      go_simp
      refine hK _ _ ?_
      clear hK K
      refine wpAny_ready (rs := [11]) (by kernel_rfl) (by simp) ?_
      refine AllReady.cons rfl (fun K hK => ?_) AllReady.nil
      go_simp
      refine (l02Of_any (s.extract 4 6) _ (E2.out ())).mono ?_
      rintro e w' ⟨rfl, rfl⟩
      refine hK _ _ ?_
      clear hK K
      refine wpAny_take (i := 14) (v := ?v14) rfl (by kernel_rfl) (by kernel_rfl) (by kernel_rfl) (fun _ _ _ h => h) (Or.inl ⟨by rfl, ?h14⟩) ?r14
      case h14 => intro wz; go_simp; try (with_reducible rfl)
      refine wpAny_ready (rs := [16]) (by kernel_rfl) (by simp) ?_
      refine AllReady.cons rfl (fun K hK => ?_) AllReady.nil
      go_simp
      refine hK _ _ ?_
      clear hK K
      refine wpAny_done (by kernel_rfl) ?_ _
      go_wp2_with fail
      go_meet
      exact ⟨rfl, fin3 HV.out⟩
    refine AllReady.cons rfl (fun K hK => ?_) AllReady.nil
    go_simp
    refine hK _ _ ?_
    clear hK K
    refine wpAny_ready (rs := [5]) (by kernel_rfl) (by simp) ?_
    refine AllReady.cons rfl (fun K hK => ?_) AllReady.nil
    go_simp
    refine (l02Of_any (s.extract 1 3) _ (E1.out ())).mono ?_
    rintro e w' ⟨rfl, rfl⟩
    refine hK _ _ ?_
    clear hK K
    refine wpAny_ready (rs := [11]) (by kernel_rfl) (by simp) ?_
    refine AllReady.cons rfl (fun K hK => ?_) AllReady.nil
    go_simp
    refine (l02Of_any (s.extract 4 6) _ (E2.out ())).mono ?_
    rintro e w' ⟨rfl, rfl⟩
    refine hK _ _ ?_
    clear hK K
    refine wpAny_take (i := 14) (v := ?v15) rfl (by kernel_rfl) (by kernel_rfl) (by kernel_rfl) (fun _ _ _ h => h) (Or.inl ⟨by rfl, ?h15⟩) ?r15
    case h15 => intro wz; go_simp; try (with_reducible rfl)
    refine wpAny_ready (rs := [16]) (by kernel_rfl) (by simp) ?_
    refine AllReady.cons rfl (fun K hK => ?_) AllReady.nil
    go_simp
    refine hK _ _ ?_
    clear hK K
    refine wpAny_done (by kernel_rfl) ?_ _
    go_wp2_with fail
    go_meet
    exact ⟨rfl, fin3 HV.out⟩
  case rest =>
  obtain ⟨rfl, A1, X1, G1⟩ := hcut
  have xc0 := (blk_cell X1 0 (x := .int .i64 (sC s)) rfl).1; have xc1 := (blk_cell X1 1 (x := .int .i64 (sS s)) rfl).1; have xc2 := (blk_cell X1 2 (x := .int .i64 (sK s)) rfl).1; have xc3 := (blk_cell X1 3 (x := .int .i64 (sL s)) rfl).1; have xc4 := (blk_cell X1 4 (x := .string (sN s)) rfl).1
  clear j3 k3 j6 i0 i3 hb hne h6 hs' HV
  go_upto_region 4 with fail
  have A1d : wc.drew.heap[w.heap.size]? = some (.cells zreq 126 (0, 0)) := A1
  have X1d : wc.drew.heap[w.heap.size + 1]? = some (.cells #[.int .i64 (sC s), .int .i64 (sS s), .int .i64 (sK s), .int .i64 (sL s), .string (sN s)] 126 (0, 0)) := X1
  have hd1 : w.heap.size + 1 < wc.drew.heap.size := (Array.getElem?_eq_some_iff.1 X1d).1
  have G1d : Below w.heap.size w wc.drew := G1.drew
  have HA1 : Hid (_ ∧ _ ∧ _ ∧ _) := ⟨A1d, X1d, hd1, G1d⟩
  clear A1d X1d hd1 G1d A1 X1 G1
  go_region_with (go_at_call 139; refine (specRequestOK_any (sC s) (sS s) (sK s) (sL s) (sN s) _ (E3.out ())).mono ?_; rintro e w6 ⟨rfl, b6⟩; have A6 := (b6.block w.heap.size (Nat.lt_of_succ_lt HA1.out.2.2.1)).trans HA1.out.1; have X6 := (b6.block (w.heap.size + 1) HA1.out.2.2.1).trans HA1.out.2.1; have G6 : Below w.heap.size w w6 := HA1.out.2.2.2.trans (b6.mono HA1.out.2.2.2.size); clear b6; obtain ⟨zc0, zf0⟩ := blk_cell A6 0 (x := .int .i64 0) rfl; obtain ⟨zc1, zf1⟩ := blk_cell A6 1 (x := .int .i64 0) rfl; obtain ⟨zc2, zf2⟩ := blk_cell A6 2 (x := .int .i64 0) rfl; obtain ⟨zc3, zf3⟩ := blk_cell A6 3 (x := .int .i64 0) rfl; obtain ⟨zc4, zf4⟩ := blk_cell A6 4 (x := .string ⟨#[]⟩) rfl; have yc0 := (blk_cell X6 0 (x := .int .i64 (sC s)) rfl).1; have yc1 := (blk_cell X6 1 (x := .int .i64 (sS s)) rfl).1; have yc2 := (blk_cell X6 2 (x := .int .i64 (sK s)) rfl).1; have yc3 := (blk_cell X6 3 (x := .int .i64 (sL s)) rfl).1; have yc4 := (blk_cell X6 4 (x := .string (sN s)) rfl).1)
  all_goals
    have AF : (((((w6.setCell ⟨w.heap.size, 0, none⟩ (.int .i64 (sC s))).setCell ⟨w.heap.size, 1, none⟩ (.int .i64 (sS s))).setCell ⟨w.heap.size, 2, none⟩ (.int .i64 (sK s))).setCell ⟨w.heap.size, 3, none⟩ (.int .i64 (sL s))).setCell ⟨w.heap.size, 4, none⟩ (.string (sN s))).heap[w.heap.size]? = some (.cells #[.int .i64 (sC s), .int .i64 (sS s), .int .i64 (sK s), .int .i64 (sL s), .string (sN s)] 126 (0, 0)) := (blk_set (blk_set (blk_set (blk_set (blk_set A6 0 (.int .i64 (sC s))) 1 (.int .i64 (sS s))) 2 (.int .i64 (sK s))) 3 (.int .i64 (sL s))) 4 (.string (sN s)))
    have GF : Below w.heap.size w (((((w6.setCell ⟨w.heap.size, 0, none⟩ (.int .i64 (sC s))).setCell ⟨w.heap.size, 1, none⟩ (.int .i64 (sS s))).setCell ⟨w.heap.size, 2, none⟩ (.int .i64 (sK s))).setCell ⟨w.heap.size, 3, none⟩ (.int .i64 (sL s))).setCell ⟨w.heap.size, 4, none⟩ (.string (sN s))) := (Below.setCell (Below.setCell (Below.setCell (Below.setCell (Below.setCell G6 (p := ⟨w.heap.size, 0, none⟩) (Nat.le_refl _) (.int .i64 (sC s))) (p := ⟨w.heap.size, 1, none⟩) (Nat.le_refl _) (.int .i64 (sS s))) (p := ⟨w.heap.size, 2, none⟩) (Nat.le_refl _) (.int .i64 (sK s))) (p := ⟨w.heap.size, 3, none⟩) (Nat.le_refl _) (.int .i64 (sL s))) (p := ⟨w.heap.size, 4, none⟩) (Nat.le_refl _) (.string (sN s)))
    go_wp2_with fail
    generalize (((((w6.setCell ⟨w.heap.size, 0, none⟩ (.int .i64 (sC s))).setCell ⟨w.heap.size, 1, none⟩ (.int .i64 (sS s))).setCell ⟨w.heap.size, 2, none⟩ (.int .i64 (sK s))).setCell ⟨w.heap.size, 3, none⟩ (.int .i64 (sL s))).setCell ⟨w.heap.size, 4, none⟩ (.string (sN s))) = wf at AF GF ⊢
    have d0 := (blk_cell AF 0 (x := .int .i64 (sC s)) rfl).1
    have d1 := (blk_cell AF 1 (x := .int .i64 (sS s)) rfl).1
    have d2 := (blk_cell AF 2 (x := .int .i64 (sK s)) rfl).1
    have d3 := (blk_cell AF 3 (x := .int .i64 (sL s)) rfl).1
    have d4 := (blk_cell AF 4 (x := .string (sN s)) rfl).1
    refine bodyPost_ret (v := .tuple #[.agg #[.int .i64 (sC s), .int .i64 (sS s), .int .i64 (sK s), .int .i64 (sL s), .string (sN s)], .bool (reqB (sC s) (sS s) (sK s) (sL s) (sN s))]) (by simp [results, Tryz.results116, go_sem, d0, d1, d2, d3, d4]) rfl ⟨rfl, GF⟩

theorem l02ReadRequest_no (s : ByteArray) (w : World) (hs : s.size ≤ 65536) (hno : ∀ h : 6 < s.size, s.size ≠ 7 + (s[6]'h).toNat) :
    Calls Tryz.prog 116 #[.string s] w fun e w' => e = .returned (.tuple #[.agg zreq, .bool false]) ∧ Below w.heap.size w w' := by
  by_cases h7 : 6 < s.size
  · have hq := hno h7
    have h6 : (7 : Int) ≤ (s.size : Int) := by omega
    have hb := (s[6]'h7).toNat_lt
    have hne : ((s.size : Int) != (7 : Int) + ((s[6]'h7).toNat : Int)) = true := by rw [bne_iff_ne]; omega
    clear hno hq
    go_enter Tryz.func116, Tryz.ntmps116
    go_wp2_with fail
    refine bodyPost_ret (v := .tuple #[.agg zreq, .bool false]) (by simp [zreq, results, Tryz.results116, go_sem]) rfl ⟨rfl, (Below.refl _ _).alloc (Nat.le_refl _) _⟩
  · have h6 : (s.size : Int) < 7 := by omega
    clear hno
    go_enter Tryz.func116, Tryz.ntmps116
    go_wp2_with fail
    refine bodyPost_ret (v := .tuple #[.agg zreq, .bool false]) (by simp [zreq, results, Tryz.results116, go_sem]) rfl ⟨rfl, (Below.refl _ _).alloc (Nat.le_refl _) _⟩
end Go.Proofs.YtondmbeccpekiaaGreatDoor.Of

/- What is taken is read: impl. -/
namespace Go.Proofs.YtondmbeccpekiaaGreatDoor.Rr
open Go.RowKit Go.Proofs.YtondmbeccpekiaaGreatDoor.Sl Go.Proofs.YtondmbeccpekiaaGreatDoor.By Go.Proofs.YtondmbeccpekiaaGreatDoor.Ap Go.Proofs.YtondmbeccpekiaaGreatDoor.Rq Go.Proofs.YtondmbeccpekiaaGreatDoor.Ms

theorem ret_val {a b : Value} (h : a = b) : Ending.returned a = .returned b := by rw [h]
def rjV (z vals : Array Value) (long ok : Bool) : Value := if long then .tuple #[.agg z, .int .i64 2] else if ok then .tuple #[.agg vals, .int .i64 0] else .tuple #[.agg z, .int .i64 3]

set_option maxHeartbeats 800000 in
theorem readJustMsg_gen (v : Value) (xs : List Int) (w : World) (h : RowB w v xs) (hl : xs.length ≤ 1048576) (kd vw sq fr : Int) (dg bd mc : ByteArray) (rs : List Int) (sb : Bool)
    (htake : ∀ (W : World) (p B : Nat), Rdr B W p xs false → B ≤ p → xs.length ≤ 70000 → (∀ x ∈ xs, 0 ≤ x ∧ x ≤ 255) → Calls Tryz.prog 204 #[.pointer (some ⟨p, 0, none⟩)] W fun e w' => e = .returned (.agg #[.int .i64 kd, .int .i64 vw, .int .i64 sq, .int .i64 fr, .string dg, .string bd, .string mc]) ∧ Rdr B w' p rs sb ∧ W.grownBy w' (some p)) :
    Calls Tryz.prog 203 #[v, .func (Fn.func 204) #[] #[], .func (Fn.func 74) #[] #[]] w fun e w' => e = .returned (rjV zmsg #[.int .i64 kd, .int .i64 vw, .int .i64 sq, .int .i64 fr, .string dg, .string bd, .string mc] (decide (65536 < xs.length)) (!sb && (rs.isEmpty && msgB kd vw sq fr dg bd mc))) ∧ Below w.heap.size w w' := by
  have HT : Hid (_) := htake
  clear htake
  have HU : Hid (RowU w.heap.size w v xs) := RowU.of h
  obtain ⟨a, cap, rfl, _, hr⟩ := h
  by_cases hb : 65536 < xs.length
  · have hb' : (65536 : Int) < (xs.length : Int) := by omega
    have HE : Hid (rjV zmsg #[.int .i64 kd, .int .i64 vw, .int .i64 sq, .int .i64 fr, .string dg, .string bd, .string mc] (decide (65536 < xs.length)) (!sb && (rs.isEmpty && msgB kd vw sq fr dg bd mc)) = .tuple #[.agg zmsg, .int .i64 2]) := by show _ = _; rw [decide_eq_true hb]; rfl
    go_enter Tryz.func203, Tryz.ntmps203
    go_wp2_with fail
    refine bodyPost_ret (v := .tuple #[.agg zmsg, .int .i64 2]) (by simp [zmsg, results, Tryz.results203, go_sem]) rfl ⟨ret_val HE.out.symm, ((Below.refl _ _).alloc (Nat.le_refl _) _).alloc (by simp) _⟩
  have hb' : (xs.length : Int) ≤ 65536 := by omega
  have HR : Hid (∀ x ∈ xs, 0 ≤ x ∧ x ≤ 255) := hr
  have HX : Hid (xs.length ≤ 65536) := by show _ ≤ _; omega
  have W3s : Hid (((w.alloc (.cells zmsg 59)).alloc (.cells zmsg 59)).heap.size = w.heap.size + 1 + 1) := by show _ = _; rw [size_new, size_new]
  have H0 : Hid (Rdr w.heap.size (((w.alloc (.cells zmsg 59)).alloc (.cells zmsg 59)).alloc (.cells #[.slice a xs.length cap, .bool false] 240)) (w.heap.size + 1 + 1) xs false) := by
    refine ⟨_, ?_, HU.out.kept (fun k hk => ?_)⟩
    · have := blk_new ((w.alloc (.cells zmsg 59)).alloc (.cells zmsg 59)) #[.slice a xs.length cap, .bool false] 240
      rw [W3s.out] at this
      exact this
    · rw [Below.heap_alloc _ _ _ (by simp; omega), Below.heap_alloc _ _ _ (by simp; omega), Below.heap_alloc _ _ _ hk]
  have A0 : Hid ((((w.alloc (.cells zmsg 59)).alloc (.cells zmsg 59)).alloc (.cells #[.slice a xs.length cap, .bool false] 240)).heap[w.heap.size]? = some (.cells zmsg 59 (0, 0))) := ((Below.heap_alloc _ _ _ (by simp; omega)).trans (Below.heap_alloc _ _ _ (by simp))).trans (blk_new _ _ _)
  have B0 : Hid ((((w.alloc (.cells zmsg 59)).alloc (.cells zmsg 59)).alloc (.cells #[.slice a xs.length cap, .bool false] 240)).heap[w.heap.size + 1]? = some (.cells zmsg 59 (0, 0))) := by
    have := blk_new (w.alloc (.cells zmsg 59)) zmsg 59
    rw [size_new] at this
    exact (Below.heap_alloc _ _ _ (by simp)).trans this
  have G0 : Hid (Below w.heap.size w (((w.alloc (.cells zmsg 59)).alloc (.cells zmsg 59)).alloc (.cells #[.slice a xs.length cap, .bool false] 240))) := (((Below.refl _ _).alloc (Nat.le_refl _) _).alloc (by simp) _).alloc (by simp; omega) _
  clear hr hl hb HU W3s
  go_enter Tryz.func203, Tryz.ntmps203
  go_wp2_with fail
  refine (HT.out _ (w.heap.size + 1 + 1) w.heap.size H0.out (by omega) (by have := HX.out; omega) HR.out).mono ?_
  rintro e w4 ⟨rfl, r4, g4⟩
  have S0 : w.heap.size + 1 + 1 < (((w.alloc (.cells zmsg 59)).alloc (.cells zmsg 59)).alloc (.cells #[.slice a xs.length cap, .bool false] 240)).heap.size := by rw [size_new, size_new, size_new]; omega
  have G4 : Below w.heap.size w w4 := ⟨g4.os.trans G0.out.os, g4.tape.trans G0.out.tape, g4.output.trans G0.out.output, Nat.le_trans G0.out.size g4.size, fun k hk => (below_kept g4 (by omega) S0 k hk).trans (G0.out.block k hk)⟩
  have hp4 : w.heap.size + 1 + 1 < w4.heap.size := Nat.lt_of_lt_of_le S0 g4.size
  have a4 := blk_kept A0.out g4 (by omega)
  have b4 := blk_kept B0.out g4 (by omega)
  obtain ⟨v4, p4, a', cap', rfl, _, _, _⟩ := r4
  have A5 : (w4.alloc (.cells #[.int .i64 kd, .int .i64 vw, .int .i64 sq, .int .i64 fr, .string dg, .string bd, .string mc] 59)).heap[w.heap.size]? = some (.cells zmsg 59 (0, 0)) := (Below.heap_alloc _ _ _ (by omega)).trans a4
  have B5 : (w4.alloc (.cells #[.int .i64 kd, .int .i64 vw, .int .i64 sq, .int .i64 fr, .string dg, .string bd, .string mc] 59)).heap[w.heap.size + 1]? = some (.cells zmsg 59 (0, 0)) := (Below.heap_alloc _ _ _ (by omega)).trans b4
  have P5 := (Below.heap_alloc w4 (.cells #[.int .i64 kd, .int .i64 vw, .int .i64 sq, .int .i64 fr, .string dg, .string bd, .string mc] 59) _ hp4).trans p4
  have X5 : (w4.alloc (.cells #[.int .i64 kd, .int .i64 vw, .int .i64 sq, .int .i64 fr, .string dg, .string bd, .string mc] 59)).heap[w4.heap.size]? = some (.cells #[.int .i64 kd, .int .i64 vw, .int .i64 sq, .int .i64 fr, .string dg, .string bd, .string mc] 59 (0, 0)) := blk_new _ _ _
  have G5 : Below w.heap.size w (w4.alloc (.cells #[.int .i64 kd, .int .i64 vw, .int .i64 sq, .int .i64 fr, .string dg, .string bd, .string mc] 59)) := G4.alloc G4.size _
  have HE : Hid (rjV zmsg #[.int .i64 kd, .int .i64 vw, .int .i64 sq, .int .i64 fr, .string dg, .string bd, .string mc] (decide (65536 < xs.length)) (!sb && (rs.isEmpty && msgB kd vw sq fr dg bd mc)) = if (!sb && (rs.isEmpty && msgB kd vw sq fr dg bd mc)) then .tuple #[.agg #[.int .i64 kd, .int .i64 vw, .int .i64 sq, .int .i64 fr, .string dg, .string bd, .string mc], .int .i64 0] else .tuple #[.agg zmsg, .int .i64 3]) := by show _ = _; rw [decide_eq_false (by have := HX.out; omega)]; rfl
  clear HT g4 H0 A0 B0 G0 S0 a4 b4 p4 G4 hp4
  go_upto_region 6 with fail
  generalize (w4.alloc (.cells #[.int .i64 kd, .int .i64 vw, .int .i64 sq, .int .i64 fr, .string dg, .string bd, .string mc] 59)) = w5 at A5 B5 P5 X5 G5 ⊢
  have hx5 : w4.heap.size < w5.heap.size := (Array.getElem?_eq_some_iff.1 X5).1
  generalize w4.heap.size = x5 at X5 hx5 ⊢
  obtain ⟨p0, _⟩ := blk_cell P5 0 (x := .slice a' (rs).length cap') rfl
  obtain ⟨p1, _⟩ := blk_cell P5 1 (x := .bool (sb)) rfl
  clear P5
  rcases Bool.eq_false_or_eq_true sb with hsb | hsb
  case inl =>
    rw [hsb] at p1
    have HN : Hid (rjV zmsg #[.int .i64 kd, .int .i64 vw, .int .i64 sq, .int .i64 fr, .string dg, .string bd, .string mc] (decide (65536 < xs.length)) (!sb && (rs.isEmpty && msgB kd vw sq fr dg bd mc)) = .tuple #[.agg zmsg, .int .i64 3]) := by show _ = _; rw [HE.out, hsb]; rfl
    have yc0 := (blk_cell B5 0 (x := .int .i64 0) rfl).1
    have yc1 := (blk_cell B5 1 (x := .int .i64 0) rfl).1
    have yc2 := (blk_cell B5 2 (x := .int .i64 0) rfl).1
    have yc3 := (blk_cell B5 3 (x := .int .i64 0) rfl).1
    have yc4 := (blk_cell B5 4 (x := .string ⟨#[]⟩) rfl).1
    have yc5 := (blk_cell B5 5 (x := .string ⟨#[]⟩) rfl).1
    have yc6 := (blk_cell B5 6 (x := .string ⟨#[]⟩) rfl).1
    obtain ⟨zc0, zf0⟩ := blk_cell A5 0 (x := .int .i64 0) rfl
    obtain ⟨zc1, zf1⟩ := blk_cell A5 1 (x := .int .i64 0) rfl
    obtain ⟨zc2, zf2⟩ := blk_cell A5 2 (x := .int .i64 0) rfl
    obtain ⟨zc3, zf3⟩ := blk_cell A5 3 (x := .int .i64 0) rfl
    obtain ⟨zc4, zf4⟩ := blk_cell A5 4 (x := .string ⟨#[]⟩) rfl
    obtain ⟨zc5, zf5⟩ := blk_cell A5 5 (x := .string ⟨#[]⟩) rfl
    obtain ⟨zc6, zf6⟩ := blk_cell A5 6 (x := .string ⟨#[]⟩) rfl
    clear HE
    have AF : (((((((w5.setCell ⟨w.heap.size, 0, none⟩ (.int .i64 0)).setCell ⟨w.heap.size, 1, none⟩ (.int .i64 0)).setCell ⟨w.heap.size, 2, none⟩ (.int .i64 0)).setCell ⟨w.heap.size, 3, none⟩ (.int .i64 0)).setCell ⟨w.heap.size, 4, none⟩ (.string ⟨#[]⟩)).setCell ⟨w.heap.size, 5, none⟩ (.string ⟨#[]⟩)).setCell ⟨w.heap.size, 6, none⟩ (.string ⟨#[]⟩)).heap[w.heap.size]? = some (.cells #[.int .i64 0, .int .i64 0, .int .i64 0, .int .i64 0, .string ⟨#[]⟩, .string ⟨#[]⟩, .string ⟨#[]⟩] 59 (0, 0)) := (blk_set (blk_set (blk_set (blk_set (blk_set (blk_set (blk_set A5 0 (.int .i64 0)) 1 (.int .i64 0)) 2 (.int .i64 0)) 3 (.int .i64 0)) 4 (.string ⟨#[]⟩)) 5 (.string ⟨#[]⟩)) 6 (.string ⟨#[]⟩))
    have GF : Below w.heap.size w (((((((w5.setCell ⟨w.heap.size, 0, none⟩ (.int .i64 0)).setCell ⟨w.heap.size, 1, none⟩ (.int .i64 0)).setCell ⟨w.heap.size, 2, none⟩ (.int .i64 0)).setCell ⟨w.heap.size, 3, none⟩ (.int .i64 0)).setCell ⟨w.heap.size, 4, none⟩ (.string ⟨#[]⟩)).setCell ⟨w.heap.size, 5, none⟩ (.string ⟨#[]⟩)).setCell ⟨w.heap.size, 6, none⟩ (.string ⟨#[]⟩)) := (Below.setCell (Below.setCell (Below.setCell (Below.setCell (Below.setCell (Below.setCell (Below.setCell G5 (p := ⟨w.heap.size, 0, none⟩) (Nat.le_refl _) (.int .i64 0)) (p := ⟨w.heap.size, 1, none⟩) (Nat.le_refl _) (.int .i64 0)) (p := ⟨w.heap.size, 2, none⟩) (Nat.le_refl _) (.int .i64 0)) (p := ⟨w.heap.size, 3, none⟩) (Nat.le_refl _) (.int .i64 0)) (p := ⟨w.heap.size, 4, none⟩) (Nat.le_refl _) (.string ⟨#[]⟩)) (p := ⟨w.heap.size, 5, none⟩) (Nat.le_refl _) (.string ⟨#[]⟩)) (p := ⟨w.heap.size, 6, none⟩) (Nat.le_refl _) (.string ⟨#[]⟩))
    go_wp2_with fail
    generalize (((((((w5.setCell ⟨w.heap.size, 0, none⟩ (.int .i64 0)).setCell ⟨w.heap.size, 1, none⟩ (.int .i64 0)).setCell ⟨w.heap.size, 2, none⟩ (.int .i64 0)).setCell ⟨w.heap.size, 3, none⟩ (.int .i64 0)).setCell ⟨w.heap.size, 4, none⟩ (.string ⟨#[]⟩)).setCell ⟨w.heap.size, 5, none⟩ (.string ⟨#[]⟩)).setCell ⟨w.heap.size, 6, none⟩ (.string ⟨#[]⟩)) = wf at AF GF ⊢
    have d0 := (blk_cell AF 0 (x := .int .i64 0) rfl).1
    have d1 := (blk_cell AF 1 (x := .int .i64 0) rfl).1
    have d2 := (blk_cell AF 2 (x := .int .i64 0) rfl).1
    have d3 := (blk_cell AF 3 (x := .int .i64 0) rfl).1
    have d4 := (blk_cell AF 4 (x := .string ⟨#[]⟩) rfl).1
    have d5 := (blk_cell AF 5 (x := .string ⟨#[]⟩) rfl).1
    have d6 := (blk_cell AF 6 (x := .string ⟨#[]⟩) rfl).1
    refine bodyPost_ret (v := .tuple #[.agg #[.int .i64 0, .int .i64 0, .int .i64 0, .int .i64 0, .string ⟨#[]⟩, .string ⟨#[]⟩, .string ⟨#[]⟩], .int .i64 3]) (by simp [results, Tryz.results203, go_sem, d0, d1, d2, d3, d4, d5, d6]) rfl ⟨ret_val HN.out.symm, GF⟩
  case inr =>
  rw [hsb] at p1
  rcases rs with _ | ⟨y, ys⟩
  rotate_left
  · have HN : Hid (rjV zmsg #[.int .i64 kd, .int .i64 vw, .int .i64 sq, .int .i64 fr, .string dg, .string bd, .string mc] (decide (65536 < xs.length)) (!sb && ((y :: ys).isEmpty && msgB kd vw sq fr dg bd mc)) = .tuple #[.agg zmsg, .int .i64 3]) := by show _ = _; rw [HE.out, hsb]; rfl
    have hlen : 0 < (y :: ys).length := Nat.succ_pos _
    have hdec : decide (0 < (y :: ys).length) = true := decide_eq_true hlen
    generalize (y :: ys).length = len at p0 hlen hdec
    have yc0 := (blk_cell B5 0 (x := .int .i64 0) rfl).1
    have yc1 := (blk_cell B5 1 (x := .int .i64 0) rfl).1
    have yc2 := (blk_cell B5 2 (x := .int .i64 0) rfl).1
    have yc3 := (blk_cell B5 3 (x := .int .i64 0) rfl).1
    have yc4 := (blk_cell B5 4 (x := .string ⟨#[]⟩) rfl).1
    have yc5 := (blk_cell B5 5 (x := .string ⟨#[]⟩) rfl).1
    have yc6 := (blk_cell B5 6 (x := .string ⟨#[]⟩) rfl).1
    obtain ⟨zc0, zf0⟩ := blk_cell A5 0 (x := .int .i64 0) rfl
    obtain ⟨zc1, zf1⟩ := blk_cell A5 1 (x := .int .i64 0) rfl
    obtain ⟨zc2, zf2⟩ := blk_cell A5 2 (x := .int .i64 0) rfl
    obtain ⟨zc3, zf3⟩ := blk_cell A5 3 (x := .int .i64 0) rfl
    obtain ⟨zc4, zf4⟩ := blk_cell A5 4 (x := .string ⟨#[]⟩) rfl
    obtain ⟨zc5, zf5⟩ := blk_cell A5 5 (x := .string ⟨#[]⟩) rfl
    obtain ⟨zc6, zf6⟩ := blk_cell A5 6 (x := .string ⟨#[]⟩) rfl
    clear HE
    have AF : (((((((w5.setCell ⟨w.heap.size, 0, none⟩ (.int .i64 0)).setCell ⟨w.heap.size, 1, none⟩ (.int .i64 0)).setCell ⟨w.heap.size, 2, none⟩ (.int .i64 0)).setCell ⟨w.heap.size, 3, none⟩ (.int .i64 0)).setCell ⟨w.heap.size, 4, none⟩ (.string ⟨#[]⟩)).setCell ⟨w.heap.size, 5, none⟩ (.string ⟨#[]⟩)).setCell ⟨w.heap.size, 6, none⟩ (.string ⟨#[]⟩)).heap[w.heap.size]? = some (.cells #[.int .i64 0, .int .i64 0, .int .i64 0, .int .i64 0, .string ⟨#[]⟩, .string ⟨#[]⟩, .string ⟨#[]⟩] 59 (0, 0)) := (blk_set (blk_set (blk_set (blk_set (blk_set (blk_set (blk_set A5 0 (.int .i64 0)) 1 (.int .i64 0)) 2 (.int .i64 0)) 3 (.int .i64 0)) 4 (.string ⟨#[]⟩)) 5 (.string ⟨#[]⟩)) 6 (.string ⟨#[]⟩))
    have GF : Below w.heap.size w (((((((w5.setCell ⟨w.heap.size, 0, none⟩ (.int .i64 0)).setCell ⟨w.heap.size, 1, none⟩ (.int .i64 0)).setCell ⟨w.heap.size, 2, none⟩ (.int .i64 0)).setCell ⟨w.heap.size, 3, none⟩ (.int .i64 0)).setCell ⟨w.heap.size, 4, none⟩ (.string ⟨#[]⟩)).setCell ⟨w.heap.size, 5, none⟩ (.string ⟨#[]⟩)).setCell ⟨w.heap.size, 6, none⟩ (.string ⟨#[]⟩)) := (Below.setCell (Below.setCell (Below.setCell (Below.setCell (Below.setCell (Below.setCell (Below.setCell G5 (p := ⟨w.heap.size, 0, none⟩) (Nat.le_refl _) (.int .i64 0)) (p := ⟨w.heap.size, 1, none⟩) (Nat.le_refl _) (.int .i64 0)) (p := ⟨w.heap.size, 2, none⟩) (Nat.le_refl _) (.int .i64 0)) (p := ⟨w.heap.size, 3, none⟩) (Nat.le_refl _) (.int .i64 0)) (p := ⟨w.heap.size, 4, none⟩) (Nat.le_refl _) (.string ⟨#[]⟩)) (p := ⟨w.heap.size, 5, none⟩) (Nat.le_refl _) (.string ⟨#[]⟩)) (p := ⟨w.heap.size, 6, none⟩) (Nat.le_refl _) (.string ⟨#[]⟩))
    go_wp2_with fail
    generalize (((((((w5.setCell ⟨w.heap.size, 0, none⟩ (.int .i64 0)).setCell ⟨w.heap.size, 1, none⟩ (.int .i64 0)).setCell ⟨w.heap.size, 2, none⟩ (.int .i64 0)).setCell ⟨w.heap.size, 3, none⟩ (.int .i64 0)).setCell ⟨w.heap.size, 4, none⟩ (.string ⟨#[]⟩)).setCell ⟨w.heap.size, 5, none⟩ (.string ⟨#[]⟩)).setCell ⟨w.heap.size, 6, none⟩ (.string ⟨#[]⟩)) = wf at AF GF ⊢
    have d0 := (blk_cell AF 0 (x := .int .i64 0) rfl).1
    have d1 := (blk_cell AF 1 (x := .int .i64 0) rfl).1
    have d2 := (blk_cell AF 2 (x := .int .i64 0) rfl).1
    have d3 := (blk_cell AF 3 (x := .int .i64 0) rfl).1
    have d4 := (blk_cell AF 4 (x := .string ⟨#[]⟩) rfl).1
    have d5 := (blk_cell AF 5 (x := .string ⟨#[]⟩) rfl).1
    have d6 := (blk_cell AF 6 (x := .string ⟨#[]⟩) rfl).1
    refine bodyPost_ret (v := .tuple #[.agg #[.int .i64 0, .int .i64 0, .int .i64 0, .int .i64 0, .string ⟨#[]⟩, .string ⟨#[]⟩, .string ⟨#[]⟩], .int .i64 3]) (by simp [results, Tryz.results203, go_sem, d0, d1, d2, d3, d4, d5, d6]) rfl ⟨ret_val HN.out.symm, GF⟩
  have xc0 := (blk_cell X5 0 (x := .int .i64 kd) rfl).1
  have xc1 := (blk_cell X5 1 (x := .int .i64 vw) rfl).1
  have xc2 := (blk_cell X5 2 (x := .int .i64 sq) rfl).1
  have xc3 := (blk_cell X5 3 (x := .int .i64 fr) rfl).1
  have xc4 := (blk_cell X5 4 (x := .string dg) rfl).1
  have xc5 := (blk_cell X5 5 (x := .string bd) rfl).1
  have xc6 := (blk_cell X5 6 (x := .string mc) rfl).1
  have HE2 : Hid (rjV zmsg #[.int .i64 kd, .int .i64 vw, .int .i64 sq, .int .i64 fr, .string dg, .string bd, .string mc] (decide (65536 < xs.length)) (!sb && (([] : List Int).isEmpty && msgB kd vw sq fr dg bd mc)) = if msgB kd vw sq fr dg bd mc then .tuple #[.agg #[.int .i64 kd, .int .i64 vw, .int .i64 sq, .int .i64 fr, .string dg, .string bd, .string mc], .int .i64 0] else .tuple #[.agg zmsg, .int .i64 3]) := by show _ = _; rw [HE.out, hsb]; rfl
  clear HE
  go_wp2_with fail
  refine (implMessageOK_any kd vw sq fr dg bd mc _).mono ?_
  rintro e w6 ⟨rfl, b6⟩
  have t5 : w.heap.size + 1 < w5.heap.size := (Array.getElem?_eq_some_iff.1 B5).1
  have A6 := (b6.block w.heap.size (by omega)).trans A5
  have B6 := (b6.block (w.heap.size + 1) t5).trans B5
  have X6 := (b6.block x5 hx5).trans X5
  have G6 : Below w.heap.size w w6 := G5.trans (b6.mono G5.size)
  clear A5 B5 X5 G5 b6 hx5 t5 p0 p1 xc0 xc1 xc2 xc3 xc4 xc5 xc6
  cases hq : msgB kd vw sq fr dg bd mc
  case false =>
    have HN : Hid (rjV zmsg #[.int .i64 kd, .int .i64 vw, .int .i64 sq, .int .i64 fr, .string dg, .string bd, .string mc] (decide (65536 < xs.length)) (!sb && (([] : List Int).isEmpty && msgB kd vw sq fr dg bd mc)) = .tuple #[.agg zmsg, .int .i64 3]) := by show _ = _; rw [HE2.out, hq]; rfl
    have yc0 := (blk_cell B6 0 (x := .int .i64 0) rfl).1
    have yc1 := (blk_cell B6 1 (x := .int .i64 0) rfl).1
    have yc2 := (blk_cell B6 2 (x := .int .i64 0) rfl).1
    have yc3 := (blk_cell B6 3 (x := .int .i64 0) rfl).1
    have yc4 := (blk_cell B6 4 (x := .string ⟨#[]⟩) rfl).1
    have yc5 := (blk_cell B6 5 (x := .string ⟨#[]⟩) rfl).1
    have yc6 := (blk_cell B6 6 (x := .string ⟨#[]⟩) rfl).1
    obtain ⟨zc0, zf0⟩ := blk_cell A6 0 (x := .int .i64 0) rfl
    obtain ⟨zc1, zf1⟩ := blk_cell A6 1 (x := .int .i64 0) rfl
    obtain ⟨zc2, zf2⟩ := blk_cell A6 2 (x := .int .i64 0) rfl
    obtain ⟨zc3, zf3⟩ := blk_cell A6 3 (x := .int .i64 0) rfl
    obtain ⟨zc4, zf4⟩ := blk_cell A6 4 (x := .string ⟨#[]⟩) rfl
    obtain ⟨zc5, zf5⟩ := blk_cell A6 5 (x := .string ⟨#[]⟩) rfl
    obtain ⟨zc6, zf6⟩ := blk_cell A6 6 (x := .string ⟨#[]⟩) rfl
    clear HE2
    have AF : (((((((w6.setCell ⟨w.heap.size, 0, none⟩ (.int .i64 0)).setCell ⟨w.heap.size, 1, none⟩ (.int .i64 0)).setCell ⟨w.heap.size, 2, none⟩ (.int .i64 0)).setCell ⟨w.heap.size, 3, none⟩ (.int .i64 0)).setCell ⟨w.heap.size, 4, none⟩ (.string ⟨#[]⟩)).setCell ⟨w.heap.size, 5, none⟩ (.string ⟨#[]⟩)).setCell ⟨w.heap.size, 6, none⟩ (.string ⟨#[]⟩)).heap[w.heap.size]? = some (.cells #[.int .i64 0, .int .i64 0, .int .i64 0, .int .i64 0, .string ⟨#[]⟩, .string ⟨#[]⟩, .string ⟨#[]⟩] 59 (0, 0)) := (blk_set (blk_set (blk_set (blk_set (blk_set (blk_set (blk_set A6 0 (.int .i64 0)) 1 (.int .i64 0)) 2 (.int .i64 0)) 3 (.int .i64 0)) 4 (.string ⟨#[]⟩)) 5 (.string ⟨#[]⟩)) 6 (.string ⟨#[]⟩))
    have GF : Below w.heap.size w (((((((w6.setCell ⟨w.heap.size, 0, none⟩ (.int .i64 0)).setCell ⟨w.heap.size, 1, none⟩ (.int .i64 0)).setCell ⟨w.heap.size, 2, none⟩ (.int .i64 0)).setCell ⟨w.heap.size, 3, none⟩ (.int .i64 0)).setCell ⟨w.heap.size, 4, none⟩ (.string ⟨#[]⟩)).setCell ⟨w.heap.size, 5, none⟩ (.string ⟨#[]⟩)).setCell ⟨w.heap.size, 6, none⟩ (.string ⟨#[]⟩)) := (Below.setCell (Below.setCell (Below.setCell (Below.setCell (Below.setCell (Below.setCell (Below.setCell G6 (p := ⟨w.heap.size, 0, none⟩) (Nat.le_refl _) (.int .i64 0)) (p := ⟨w.heap.size, 1, none⟩) (Nat.le_refl _) (.int .i64 0)) (p := ⟨w.heap.size, 2, none⟩) (Nat.le_refl _) (.int .i64 0)) (p := ⟨w.heap.size, 3, none⟩) (Nat.le_refl _) (.int .i64 0)) (p := ⟨w.heap.size, 4, none⟩) (Nat.le_refl _) (.string ⟨#[]⟩)) (p := ⟨w.heap.size, 5, none⟩) (Nat.le_refl _) (.string ⟨#[]⟩)) (p := ⟨w.heap.size, 6, none⟩) (Nat.le_refl _) (.string ⟨#[]⟩))
    go_wp2_with fail
    generalize (((((((w6.setCell ⟨w.heap.size, 0, none⟩ (.int .i64 0)).setCell ⟨w.heap.size, 1, none⟩ (.int .i64 0)).setCell ⟨w.heap.size, 2, none⟩ (.int .i64 0)).setCell ⟨w.heap.size, 3, none⟩ (.int .i64 0)).setCell ⟨w.heap.size, 4, none⟩ (.string ⟨#[]⟩)).setCell ⟨w.heap.size, 5, none⟩ (.string ⟨#[]⟩)).setCell ⟨w.heap.size, 6, none⟩ (.string ⟨#[]⟩)) = wf at AF GF ⊢
    have d0 := (blk_cell AF 0 (x := .int .i64 0) rfl).1
    have d1 := (blk_cell AF 1 (x := .int .i64 0) rfl).1
    have d2 := (blk_cell AF 2 (x := .int .i64 0) rfl).1
    have d3 := (blk_cell AF 3 (x := .int .i64 0) rfl).1
    have d4 := (blk_cell AF 4 (x := .string ⟨#[]⟩) rfl).1
    have d5 := (blk_cell AF 5 (x := .string ⟨#[]⟩) rfl).1
    have d6 := (blk_cell AF 6 (x := .string ⟨#[]⟩) rfl).1
    refine bodyPost_ret (v := .tuple #[.agg #[.int .i64 0, .int .i64 0, .int .i64 0, .int .i64 0, .string ⟨#[]⟩, .string ⟨#[]⟩, .string ⟨#[]⟩], .int .i64 3]) (by simp [results, Tryz.results203, go_sem, d0, d1, d2, d3, d4, d5, d6]) rfl ⟨ret_val HN.out.symm, GF⟩
  case true =>
    have HN : Hid (rjV zmsg #[.int .i64 kd, .int .i64 vw, .int .i64 sq, .int .i64 fr, .string dg, .string bd, .string mc] (decide (65536 < xs.length)) (!sb && (([] : List Int).isEmpty && msgB kd vw sq fr dg bd mc)) = .tuple #[.agg #[.int .i64 kd, .int .i64 vw, .int .i64 sq, .int .i64 fr, .string dg, .string bd, .string mc], .int .i64 0]) := by show _ = _; rw [HE2.out, hq]; rfl
    have xc0 := (blk_cell X6 0 (x := .int .i64 kd) rfl).1
    have xc1 := (blk_cell X6 1 (x := .int .i64 vw) rfl).1
    have xc2 := (blk_cell X6 2 (x := .int .i64 sq) rfl).1
    have xc3 := (blk_cell X6 3 (x := .int .i64 fr) rfl).1
    have xc4 := (blk_cell X6 4 (x := .string dg) rfl).1
    have xc5 := (blk_cell X6 5 (x := .string bd) rfl).1
    have xc6 := (blk_cell X6 6 (x := .string mc) rfl).1
    obtain ⟨zc0, zf0⟩ := blk_cell A6 0 (x := .int .i64 0) rfl
    obtain ⟨zc1, zf1⟩ := blk_cell A6 1 (x := .int .i64 0) rfl
    obtain ⟨zc2, zf2⟩ := blk_cell A6 2 (x := .int .i64 0) rfl
    obtain ⟨zc3, zf3⟩ := blk_cell A6 3 (x := .int .i64 0) rfl
    obtain ⟨zc4, zf4⟩ := blk_cell A6 4 (x := .string ⟨#[]⟩) rfl
    obtain ⟨zc5, zf5⟩ := blk_cell A6 5 (x := .string ⟨#[]⟩) rfl
    obtain ⟨zc6, zf6⟩ := blk_cell A6 6 (x := .string ⟨#[]⟩) rfl
    clear HE2
    have AF : (((((((w6.setCell ⟨w.heap.size, 0, none⟩ (.int .i64 kd)).setCell ⟨w.heap.size, 1, none⟩ (.int .i64 vw)).setCell ⟨w.heap.size, 2, none⟩ (.int .i64 sq)).setCell ⟨w.heap.size, 3, none⟩ (.int .i64 fr)).setCell ⟨w.heap.size, 4, none⟩ (.string dg)).setCell ⟨w.heap.size, 5, none⟩ (.string bd)).setCell ⟨w.heap.size, 6, none⟩ (.string mc)).heap[w.heap.size]? = some (.cells #[.int .i64 kd, .int .i64 vw, .int .i64 sq, .int .i64 fr, .string dg, .string bd, .string mc] 59 (0, 0)) := (blk_set (blk_set (blk_set (blk_set (blk_set (blk_set (blk_set A6 0 (.int .i64 kd)) 1 (.int .i64 vw)) 2 (.int .i64 sq)) 3 (.int .i64 fr)) 4 (.string dg)) 5 (.string bd)) 6 (.string mc))
    have GF : Below w.heap.size w (((((((w6.setCell ⟨w.heap.size, 0, none⟩ (.int .i64 kd)).setCell ⟨w.heap.size, 1, none⟩ (.int .i64 vw)).setCell ⟨w.heap.size, 2, none⟩ (.int .i64 sq)).setCell ⟨w.heap.size, 3, none⟩ (.int .i64 fr)).setCell ⟨w.heap.size, 4, none⟩ (.string dg)).setCell ⟨w.heap.size, 5, none⟩ (.string bd)).setCell ⟨w.heap.size, 6, none⟩ (.string mc)) := (Below.setCell (Below.setCell (Below.setCell (Below.setCell (Below.setCell (Below.setCell (Below.setCell G6 (p := ⟨w.heap.size, 0, none⟩) (Nat.le_refl _) (.int .i64 kd)) (p := ⟨w.heap.size, 1, none⟩) (Nat.le_refl _) (.int .i64 vw)) (p := ⟨w.heap.size, 2, none⟩) (Nat.le_refl _) (.int .i64 sq)) (p := ⟨w.heap.size, 3, none⟩) (Nat.le_refl _) (.int .i64 fr)) (p := ⟨w.heap.size, 4, none⟩) (Nat.le_refl _) (.string dg)) (p := ⟨w.heap.size, 5, none⟩) (Nat.le_refl _) (.string bd)) (p := ⟨w.heap.size, 6, none⟩) (Nat.le_refl _) (.string mc))
    go_wp2_with fail
    generalize (((((((w6.setCell ⟨w.heap.size, 0, none⟩ (.int .i64 kd)).setCell ⟨w.heap.size, 1, none⟩ (.int .i64 vw)).setCell ⟨w.heap.size, 2, none⟩ (.int .i64 sq)).setCell ⟨w.heap.size, 3, none⟩ (.int .i64 fr)).setCell ⟨w.heap.size, 4, none⟩ (.string dg)).setCell ⟨w.heap.size, 5, none⟩ (.string bd)).setCell ⟨w.heap.size, 6, none⟩ (.string mc)) = wf at AF GF ⊢
    have d0 := (blk_cell AF 0 (x := .int .i64 kd) rfl).1
    have d1 := (blk_cell AF 1 (x := .int .i64 vw) rfl).1
    have d2 := (blk_cell AF 2 (x := .int .i64 sq) rfl).1
    have d3 := (blk_cell AF 3 (x := .int .i64 fr) rfl).1
    have d4 := (blk_cell AF 4 (x := .string dg) rfl).1
    have d5 := (blk_cell AF 5 (x := .string bd) rfl).1
    have d6 := (blk_cell AF 6 (x := .string mc) rfl).1
    refine bodyPost_ret (v := .tuple #[.agg #[.int .i64 kd, .int .i64 vw, .int .i64 sq, .int .i64 fr, .string dg, .string bd, .string mc], .int .i64 0]) (by simp [results, Tryz.results203, go_sem, d0, d1, d2, d3, d4, d5, d6]) rfl ⟨ret_val HN.out.symm, GF⟩
end Go.Proofs.YtondmbeccpekiaaGreatDoor.Rr
