/- Texts put together: SpMsg, EqMsg, Bt. -/
import Derived.Test.YtondmbeccpekiaaGreatDoorH24
import Derived.Test.YtondmbeccpekiaaGreatDoorH25
import Derived.Test.YtondmbeccpekiaaGreatDoorH8
import Derived.Test.YtondmbeccpekiaaGreatDoorH27
import Derived.Test.YtondmbeccpekiaaGreatDoorH26
import Derived.Test.YtondmbeccpekiaaGreatDoorH7
/- The specification's ReadMessage. -/
namespace Go.Proofs.YtondmbeccpekiaaGreatDoor.Om
open Go.RowKit Go.Proofs.YtondmbeccpekiaaGreatDoor.Sl Go.Proofs.YtondmbeccpekiaaGreatDoor.By Go.Proofs.YtondmbeccpekiaaGreatDoor.Ap Go.Proofs.YtondmbeccpekiaaGreatDoor.Rq Go.Proofs.YtondmbeccpekiaaGreatDoor.Rr Go.Proofs.YtondmbeccpekiaaGreatDoor.Of Go.Proofs.YtondmbeccpekiaaGreatDoor.Ms

theorem fin7 {w : World} {A B : Array Value} (h : A = B) : ((w.alloc (.cells zmsg 59)).alloc (.cells A 59)).drew.heap[w.heap.size]? = some (.cells zmsg 59 (0, 0)) ∧
    ((w.alloc (.cells zmsg 59)).alloc (.cells A 59)).drew.heap[w.heap.size + 1]? = some (.cells B 59 (0, 0)) ∧ Below w.heap.size w ((w.alloc (.cells zmsg 59)).alloc (.cells A 59)).drew := by
  subst h
  refine ⟨(Below.heap_alloc _ _ _ (by simp)).trans (blk_new _ _ _), ?_, (((Below.refl _ _).alloc (Nat.le_refl _) _).alloc (by simp) _).drew⟩
  have := blk_new (w.alloc (.cells zmsg 59)) A 59
  rw [size_new] at this
  exact this

set_option maxRecDepth 100000 in
set_option maxHeartbeats 1600000 in
theorem l02ReadMessage_yes (s : ByteArray) (w : World) (d N : Nat) (hs : s.size ≤ 65536) (h7 : 4 < s.size) (hd : (s[4]'h7).toNat = d) (hN : beN (bys (s.extract (5 + d) (5 + d + 2))) = (N : Int)) (hq : s.size = 5 + d + 2 + N + 8) :
    Calls Tryz.prog 121 #[.string s] w fun e w' => e = .returned (.tuple #[.agg #[.int .i64 (nth (bys s) 0), .int .i64 (nth (bys s) 1), .int .i64 (nth (bys s) 2), .int .i64 (nth (bys s) 3), .string (s.extract 5 (5 + d)), .string (s.extract (5 + d + 2) (5 + d + 2 + N)), .string (s.extract (5 + d + 2 + N) s.size)], .bool (msgB (nth (bys s) 0) (nth (bys s) 1) (nth (bys s) 2) (nth (bys s) 3) (s.extract 5 (5 + d)) (s.extract (5 + d + 2) (5 + d + 2 + N)) (s.extract (5 + d + 2 + N) s.size))]) ∧ Below w.heap.size w w' := by
  have h6 : (7 : Int) ≤ (s.size : Int) := by omega
  have hd1 : (7 : Int) + (d : Int) ≤ (s.size : Int) := by omega
  have hd8 : d < 256 := by rw [← hd]; exact (s[4]'h7).toNat_lt
  have k4 : (4 : Int) < (s.size : Int) := by omega
  have k1 : (1 : Int) < (s.size : Int) := by omega
  have k2 : (2 : Int) < (s.size : Int) := by omega
  have k3 : (3 : Int) < (s.size : Int) := by omega
  have k5 : (5 : Int) + (d : Int) ≤ (s.size : Int) := by omega
  have k6 : (5 : Int) + (d : Int) + 2 + (N : Int) ≤ (s.size : Int) := by omega
  have k7 : (0 : Int) ≤ (5 : Int) + (d : Int) + 2 := by omega
  have k8 : (5 : Int) + (d : Int) + 2 ≤ (5 : Int) + (d : Int) + 2 + (N : Int) := by omega
  have k9 : (0 : Int) ≤ (5 : Int) + (d : Int) + 2 + (N : Int) := by omega
  have k10 : (5 : Int) ≤ (5 : Int) + (d : Int) := by omega
  have i0 : 0 < s.size := by omega
  have i1 : 1 < s.size := by omega
  have i2 : 2 < s.size := by omega
  have i3 : 3 < s.size := by omega
  have wA : IntKind.i64.wrap ((5 : Int) + (d : Int) + 2) = (5 : Int) + (d : Int) + 2 := by rw [IntKind.wrap_i64]; omega
  have wB : IntKind.i64.wrap ((5 : Int) + (d : Int) + 2 + (N : Int)) = (5 : Int) + (d : Int) + 2 + (N : Int) := by rw [IntKind.wrap_i64]; omega
  have hne : ((s.size : Int) != (5 : Int) + (d : Int) + 2 + (N : Int) + 8) = false := by simp; omega
  have hs' : (s.size : Int) ≤ 65536 := by omega
  have hNs : (N : Int) ≤ 65536 := by omega
  have e1 := ext_small s (5 + d) (5 + d + 2) (by omega)
  have E1 : Hid (∀ _ : Unit, (s.extract (5 + d) (5 + d + 2)).size ≤ 4) := fun _ => e1
  have HNN : Hid (beN (bys (s.extract (5 + d) (5 + d + 2))) = (N : Int)) := hN
  have HV : Hid ((#[.int .i64 (IntKind.i64.wrap ((s[0]'i0).toNat : Int)), .int .i64 (IntKind.i64.wrap ((s[1]'i1).toNat : Int)), .int .i64 (IntKind.i64.wrap ((s[2]'i2).toNat : Int)), .int .i64 (IntKind.i64.wrap ((s[3]'i3).toNat : Int)), .string (s.extract 5 (5 + d)), .string (s.extract (5 + d + 2) (5 + d + 2 + N)), .string (s.extract (5 + d + 2 + N) s.size)] : Array Value) = #[.int .i64 (nth (bys s) 0), .int .i64 (nth (bys s) 1), .int .i64 (nth (bys s) 2), .int .i64 (nth (bys s) 3), .string (s.extract 5 (5 + d)), .string (s.extract (5 + d + 2) (5 + d + 2 + N)), .string (s.extract (5 + d + 2 + N) s.size)]) := by
    show _ = _
    have b0 := (s[0]'i0).toNat_lt
    have b1 := (s[1]'i1).toNat_lt
    have b2 := (s[2]'i2).toNat_lt
    have b3 := (s[3]'i3).toNat_lt
    rw [bys_at s 0 i0, bys_at s 1 i1, bys_at s 2 i2, bys_at s 3 i3, Of.wrap_small _ b0, Of.wrap_small _ b1, Of.wrap_small _ b2, Of.wrap_small _ b3]
  clear e1 hN hq
  go_enter Tryz.func121, Tryz.ntmps121
  go_wp2_with fail
  refine (l02Of_any (s.extract (5 + d) (5 + d + 2)) _ (E1.out ())).mono ?_
  rintro e w' ⟨rfl, rfl⟩
  rw [HNN.out]
  go_upto_region 7 with fail
  go_cut [6] (fun s6 wx => s6 = .pointer (some ⟨w.heap.size + 1, 0, none⟩) ∧ wx.heap[w.heap.size]? = some (.cells zmsg 59 (0, 0)) ∧ wx.heap[w.heap.size + 1]? = some (.cells #[.int .i64 (nth (bys s) 0), .int .i64 (nth (bys s) 1), .int .i64 (nth (bys s) 2), .int .i64 (nth (bys s) 3), .string (s.extract 5 (5 + d)), .string (s.extract (5 + d + 2) (5 + d + 2 + N)), .string (s.extract (5 + d + 2 + N) s.size)] 59 (0, 0)) ∧ Below w.heap.size w wx)
  case first =>
    refine wp_region_any (by kernel_rfl) ?_
    change wpAny _ _ _ _ _ _ _ (World.drew _)
    refine wpAny_take (i := 0) (v := ?v1) rfl (by kernel_rfl) (by kernel_rfl) (by kernel_rfl) (fun _ _ _ h => h) (Or.inl ⟨by rfl, ?h1⟩) ?r1
    case h1 => intro wz; go_simp; try (with_reducible rfl)
    refine wpAny_take (i := 1) (v := ?v2) rfl (by kernel_rfl) (by kernel_rfl) (by kernel_rfl) (fun _ _ _ h => h) (Or.inl ⟨by rfl, ?h2⟩) ?r2
    case h2 => intro wz; go_simp; try (with_reducible rfl)
    refine wpAny_take (i := 2) (v := ?v3) rfl (by kernel_rfl) (by kernel_rfl) (by kernel_rfl) (fun _ _ _ h => h) (Or.inl ⟨by rfl, ?h3⟩) ?r3
    case h3 => intro wz; go_simp; try (with_reducible rfl)
    refine wpAny_take (i := 3) (v := ?v4) rfl (by kernel_rfl) (by kernel_rfl) (by kernel_rfl) (fun _ _ _ h => h) (Or.inl ⟨by rfl, ?h4⟩) ?r4
    case h4 => intro wz; go_simp; try (with_reducible rfl)
    refine wpAny_take (i := 4) (v := ?v5) rfl (by kernel_rfl) (by kernel_rfl) (by kernel_rfl) (fun _ _ _ h => h) (Or.inl ⟨by rfl, ?h5⟩) ?r5
    case h5 => intro wz; go_simp; try (with_reducible rfl)
    refine wpAny_take (i := 5) (v := ?v6) rfl (by kernel_rfl) (by kernel_rfl) (by kernel_rfl) (fun _ _ _ h => h) (Or.inl ⟨by rfl, ?h6⟩) ?r6
    case h6 => intro wz; go_simp; try (with_reducible rfl)
    refine wpAny_take (i := 6) (v := ?v7) rfl (by kernel_rfl) (by kernel_rfl) (by kernel_rfl) (fun _ _ _ h => h) (Or.inl ⟨by rfl, ?h7⟩) ?r7
    case h7 => intro wz; go_simp; try (with_reducible rfl)
    refine wpAny_take (i := 7) (v := ?v8) rfl (by kernel_rfl) (by kernel_rfl) (by kernel_rfl) (fun _ _ _ h => h) (Or.inl ⟨by rfl, ?h8⟩) ?r8
    case h8 => intro wz; go_simp; try (with_reducible rfl)
    refine wpAny_take (i := 8) (v := ?v9) rfl (by kernel_rfl) (by kernel_rfl) (by kernel_rfl) (fun _ _ _ h => h) (Or.inl ⟨by rfl, ?h9⟩) ?r9
    case h9 => intro wz; go_simp; try (with_reducible rfl)
    refine wpAny_take (i := 9) (v := ?v10) rfl (by kernel_rfl) (by kernel_rfl) (by kernel_rfl) (fun _ _ _ h => h) (Or.inl ⟨by rfl, ?h10⟩) ?r10
    case h10 => intro wz; go_simp; try (with_reducible rfl)
    refine wpAny_take (i := 10) (v := ?v11) rfl (by kernel_rfl) (by kernel_rfl) (by kernel_rfl) (fun _ _ _ h => h) (Or.inl ⟨by rfl, ?h11⟩) ?r11
    case h11 => intro wz; go_simp; try (with_reducible rfl)
    refine wpAny_take (i := 11) (v := ?v12) rfl (by kernel_rfl) (by kernel_rfl) (by kernel_rfl) (fun _ _ _ h => h) (Or.inl ⟨by rfl, ?h12⟩) ?r12
    case h12 => intro wz; go_simp; try (with_reducible rfl)
    refine wpAny_take (i := 12) (v := ?v13) rfl (by kernel_rfl) (by kernel_rfl) (by kernel_rfl) (fun _ _ _ h => h) (Or.inl ⟨by rfl, ?h13⟩) ?r13
    case h13 => intro wz; go_simp; try (with_reducible rfl)
    refine wpAny_take (i := 13) (v := ?v14) rfl (by kernel_rfl) (by kernel_rfl) (by kernel_rfl) (fun _ _ _ h => h) (Or.inl ⟨by rfl, ?h14⟩) ?r14
    case h14 => intro wz; go_simp; try (with_reducible rfl)
    refine wpAny_take (i := 14) (v := ?v15) rfl (by kernel_rfl) (by kernel_rfl) (by kernel_rfl) (fun _ _ _ h => h) (Or.inl ⟨by rfl, ?h15⟩) ?r15
    case h15 => intro wz; go_simp; try (with_reducible rfl)
    refine wpAny_take (i := 15) (v := ?v16) rfl (by kernel_rfl) (by kernel_rfl) (by kernel_rfl) (fun _ _ _ h => h) (Or.inl ⟨by rfl, ?h16⟩) ?r16
    case h16 => intro wz; go_simp; try (with_reducible rfl)
    refine wpAny_take (i := 16) (v := ?v17) rfl (by kernel_rfl) (by kernel_rfl) (by kernel_rfl) (fun _ _ _ h => h) (Or.inl ⟨by rfl, ?h17⟩) ?r17
    case h17 => intro wz; go_simp; try (with_reducible rfl)
    refine wpAny_take (i := 17) (v := ?v18) rfl (by kernel_rfl) (by kernel_rfl) (by kernel_rfl) (fun _ _ _ h => h) (Or.inl ⟨by rfl, ?h18⟩) ?r18
    case h18 => intro wz; go_simp; try (with_reducible rfl)
    refine wpAny_take (i := 18) (v := ?v19) rfl (by kernel_rfl) (by kernel_rfl) (by kernel_rfl) (fun _ _ _ h => h) (Or.inl ⟨by rfl, ?h19⟩) ?r19
    case h19 => intro wz; go_simp; try (with_reducible rfl)
    refine wpAny_take (i := 19) (v := ?v20) rfl (by kernel_rfl) (by kernel_rfl) (by kernel_rfl) (fun _ _ _ h => h) (Or.inl ⟨by rfl, ?h20⟩) ?r20
    case h20 => intro wz; go_simp; try (with_reducible rfl)
    refine wpAny_take (i := 20) (v := ?v21) rfl (by kernel_rfl) (by kernel_rfl) (by kernel_rfl) (fun _ _ _ h => h) (Or.inl ⟨by rfl, ?h21⟩) ?r21
    case h21 => intro wz; go_simp; try (with_reducible rfl)
    refine wpAny_take (i := 21) (v := ?v22) rfl (by kernel_rfl) (by kernel_rfl) (by kernel_rfl) (fun _ _ _ h => h) (Or.inl ⟨by rfl, ?h22⟩) ?r22
    case h22 => intro wz; go_simp; try (with_reducible rfl)
    refine wpAny_take (i := 22) (v := ?v23) rfl (by kernel_rfl) (by kernel_rfl) (by kernel_rfl) (fun _ _ _ h => h) (Or.inl ⟨by rfl, ?h23⟩) ?r23
    case h23 => intro wz; go_simp; try (with_reducible rfl)
    refine wpAny_take (i := 23) (v := ?v24) rfl (by kernel_rfl) (by kernel_rfl) (by kernel_rfl) (fun _ _ _ h => h) (Or.inl ⟨by rfl, ?h24⟩) ?r24
    case h24 => intro wz; go_simp; try (with_reducible rfl)
    refine wpAny_take (i := 24) (v := ?v25) rfl (by kernel_rfl) (by kernel_rfl) (by kernel_rfl) (fun _ _ _ h => h) (Or.inl ⟨by rfl, ?h25⟩) ?r25
    case h25 => intro wz; go_simp; try (with_reducible rfl)
    refine wpAny_take (i := 25) (v := ?v26) rfl (by kernel_rfl) (by kernel_rfl) (by kernel_rfl) (fun _ _ _ h => h) (Or.inl ⟨by rfl, ?h26⟩) ?r26
    case h26 => intro wz; go_simp; try (with_reducible rfl)
    refine wpAny_take (i := 26) (v := ?v27) rfl (by kernel_rfl) (by kernel_rfl) (by kernel_rfl) (fun _ _ _ h => h) (Or.inl ⟨by rfl, ?h27⟩) ?r27
    case h27 => intro wz; go_simp; try (with_reducible rfl)
    refine wpAny_take (i := 27) (v := ?v28) rfl (by kernel_rfl) (by kernel_rfl) (by kernel_rfl) (fun _ _ _ h => h) (Or.inl ⟨by rfl, ?h28⟩) ?r28
    case h28 => intro wz; go_simp; try (with_reducible rfl)
    refine wpAny_take (i := 28) (v := ?v29) rfl (by kernel_rfl) (by kernel_rfl) (by kernel_rfl) (fun _ _ _ h => h) (Or.inl ⟨by rfl, ?h29⟩) ?r29
    case h29 => intro wz; go_simp; try (with_reducible rfl)
    refine wpAny_take (i := 29) (v := ?v30) rfl (by kernel_rfl) (by kernel_rfl) (by kernel_rfl) (fun _ _ _ h => h) (Or.inl ⟨by rfl, ?h30⟩) ?r30
    case h30 => intro wz; go_simp; try (with_reducible rfl)
    refine wpAny_ready (rs := [30]) (by kernel_rfl) (by simp) ?_
    refine AllReady.cons rfl (fun K hK => ?_) AllReady.nil
    go_simp
    refine hK _ _ ?_
    clear hK K
    refine wpAny_ready (rs := [31]) (by kernel_rfl) (by simp) ?_
    refine AllReady.cons rfl (fun K hK => ?_) AllReady.nil
    go_simp
    refine hK _ _ ?_
    clear hK K
    refine wpAny_done (by kernel_rfl) ?_ _
    go_wp2_with fail
    go_meet
    exact ⟨rfl, fin7 HV.out⟩
  case rest =>
  obtain ⟨rfl, A1, X1, G1⟩ := hcut
  have xc0 := (blk_cell X1 0 (x := .int .i64 (nth (bys s) 0)) rfl).1
  have xc1 := (blk_cell X1 1 (x := .int .i64 (nth (bys s) 1)) rfl).1
  have xc2 := (blk_cell X1 2 (x := .int .i64 (nth (bys s) 2)) rfl).1
  have xc3 := (blk_cell X1 3 (x := .int .i64 (nth (bys s) 3)) rfl).1
  have xc4 := (blk_cell X1 4 (x := .string (s.extract 5 (5 + d))) rfl).1
  have xc5 := (blk_cell X1 5 (x := .string (s.extract (5 + d + 2) (5 + d + 2 + N))) rfl).1
  have xc6 := (blk_cell X1 6 (x := .string (s.extract (5 + d + 2 + N) s.size)) rfl).1
  clear h6 hd1 k4 k1 k2 k3 k5 k6 k7 k8 k9 k10 i0 i1 i2 i3 wA wB hne hs' hNs HV E1 HNN
  go_upto_region 8 with fail
  have A1d : wc.drew.heap[w.heap.size]? = some (.cells zmsg 59 (0, 0)) := A1
  have X1d : wc.drew.heap[w.heap.size + 1]? = some (.cells #[.int .i64 (nth (bys s) 0), .int .i64 (nth (bys s) 1), .int .i64 (nth (bys s) 2), .int .i64 (nth (bys s) 3), .string (s.extract 5 (5 + d)), .string (s.extract (5 + d + 2) (5 + d + 2 + N)), .string (s.extract (5 + d + 2 + N) s.size)] 59 (0, 0)) := X1
  have hdd : w.heap.size + 1 < wc.drew.heap.size := (Array.getElem?_eq_some_iff.1 X1d).1
  have G1d : Below w.heap.size w wc.drew := G1.drew
  have HA1 : Hid (wc.drew.heap[w.heap.size]? = some (.cells zmsg 59 (0, 0)) ∧ wc.drew.heap[w.heap.size + 1]? = some (.cells #[.int .i64 (nth (bys s) 0), .int .i64 (nth (bys s) 1), .int .i64 (nth (bys s) 2), .int .i64 (nth (bys s) 3), .string (s.extract 5 (5 + d)), .string (s.extract (5 + d + 2) (5 + d + 2 + N)), .string (s.extract (5 + d + 2 + N) s.size)] 59 (0, 0)) ∧ w.heap.size + 1 < wc.drew.heap.size ∧ Below w.heap.size w wc.drew) := ⟨A1d, X1d, hdd, G1d⟩
  clear A1d X1d hdd G1d A1 X1 G1
  go_region_with (go_at_call 66; refine (specMessageOK_any (nth (bys s) 0) (nth (bys s) 1) (nth (bys s) 2) (nth (bys s) 3) (s.extract 5 (5 + d)) (s.extract (5 + d + 2) (5 + d + 2 + N)) (s.extract (5 + d + 2 + N) s.size) _).mono ?_; rintro e w6 ⟨rfl, b6⟩; have A6 := (b6.block w.heap.size (Nat.lt_of_succ_lt HA1.out.2.2.1)).trans HA1.out.1; have X6 := (b6.block (w.heap.size + 1) HA1.out.2.2.1).trans HA1.out.2.1; have G6 : Below w.heap.size w w6 := HA1.out.2.2.2.trans (b6.mono HA1.out.2.2.2.size); clear b6; obtain ⟨zc0, zf0⟩ := blk_cell A6 0 (x := .int .i64 0) rfl; obtain ⟨zc1, zf1⟩ := blk_cell A6 1 (x := .int .i64 0) rfl; obtain ⟨zc2, zf2⟩ := blk_cell A6 2 (x := .int .i64 0) rfl; obtain ⟨zc3, zf3⟩ := blk_cell A6 3 (x := .int .i64 0) rfl; obtain ⟨zc4, zf4⟩ := blk_cell A6 4 (x := .string ⟨#[]⟩) rfl; obtain ⟨zc5, zf5⟩ := blk_cell A6 5 (x := .string ⟨#[]⟩) rfl; obtain ⟨zc6, zf6⟩ := blk_cell A6 6 (x := .string ⟨#[]⟩) rfl; have yc0 := (blk_cell X6 0 (x := .int .i64 (nth (bys s) 0)) rfl).1; have yc1 := (blk_cell X6 1 (x := .int .i64 (nth (bys s) 1)) rfl).1; have yc2 := (blk_cell X6 2 (x := .int .i64 (nth (bys s) 2)) rfl).1; have yc3 := (blk_cell X6 3 (x := .int .i64 (nth (bys s) 3)) rfl).1; have yc4 := (blk_cell X6 4 (x := .string (s.extract 5 (5 + d))) rfl).1; have yc5 := (blk_cell X6 5 (x := .string (s.extract (5 + d + 2) (5 + d + 2 + N))) rfl).1; have yc6 := (blk_cell X6 6 (x := .string (s.extract (5 + d + 2 + N) s.size)) rfl).1)
  all_goals
    have AF : (((((((w6.setCell ⟨w.heap.size, 0, none⟩ (.int .i64 (nth (bys s) 0))).setCell ⟨w.heap.size, 1, none⟩ (.int .i64 (nth (bys s) 1))).setCell ⟨w.heap.size, 2, none⟩ (.int .i64 (nth (bys s) 2))).setCell ⟨w.heap.size, 3, none⟩ (.int .i64 (nth (bys s) 3))).setCell ⟨w.heap.size, 4, none⟩ (.string (s.extract 5 (5 + d)))).setCell ⟨w.heap.size, 5, none⟩ (.string (s.extract (5 + d + 2) (5 + d + 2 + N)))).setCell ⟨w.heap.size, 6, none⟩ (.string (s.extract (5 + d + 2 + N) s.size))).heap[w.heap.size]? = some (.cells #[.int .i64 (nth (bys s) 0), .int .i64 (nth (bys s) 1), .int .i64 (nth (bys s) 2), .int .i64 (nth (bys s) 3), .string (s.extract 5 (5 + d)), .string (s.extract (5 + d + 2) (5 + d + 2 + N)), .string (s.extract (5 + d + 2 + N) s.size)] 59 (0, 0)) := (blk_set (blk_set (blk_set (blk_set (blk_set (blk_set (blk_set A6 0 (.int .i64 (nth (bys s) 0))) 1 (.int .i64 (nth (bys s) 1))) 2 (.int .i64 (nth (bys s) 2))) 3 (.int .i64 (nth (bys s) 3))) 4 (.string (s.extract 5 (5 + d)))) 5 (.string (s.extract (5 + d + 2) (5 + d + 2 + N)))) 6 (.string (s.extract (5 + d + 2 + N) s.size)))
    have GF : Below w.heap.size w (((((((w6.setCell ⟨w.heap.size, 0, none⟩ (.int .i64 (nth (bys s) 0))).setCell ⟨w.heap.size, 1, none⟩ (.int .i64 (nth (bys s) 1))).setCell ⟨w.heap.size, 2, none⟩ (.int .i64 (nth (bys s) 2))).setCell ⟨w.heap.size, 3, none⟩ (.int .i64 (nth (bys s) 3))).setCell ⟨w.heap.size, 4, none⟩ (.string (s.extract 5 (5 + d)))).setCell ⟨w.heap.size, 5, none⟩ (.string (s.extract (5 + d + 2) (5 + d + 2 + N)))).setCell ⟨w.heap.size, 6, none⟩ (.string (s.extract (5 + d + 2 + N) s.size))) := (Below.setCell (Below.setCell (Below.setCell (Below.setCell (Below.setCell (Below.setCell (Below.setCell G6 (p := ⟨w.heap.size, 0, none⟩) (Nat.le_refl _) (.int .i64 (nth (bys s) 0))) (p := ⟨w.heap.size, 1, none⟩) (Nat.le_refl _) (.int .i64 (nth (bys s) 1))) (p := ⟨w.heap.size, 2, none⟩) (Nat.le_refl _) (.int .i64 (nth (bys s) 2))) (p := ⟨w.heap.size, 3, none⟩) (Nat.le_refl _) (.int .i64 (nth (bys s) 3))) (p := ⟨w.heap.size, 4, none⟩) (Nat.le_refl _) (.string (s.extract 5 (5 + d)))) (p := ⟨w.heap.size, 5, none⟩) (Nat.le_refl _) (.string (s.extract (5 + d + 2) (5 + d + 2 + N)))) (p := ⟨w.heap.size, 6, none⟩) (Nat.le_refl _) (.string (s.extract (5 + d + 2 + N) s.size)))
    go_wp2_with fail
    generalize (((((((w6.setCell ⟨w.heap.size, 0, none⟩ (.int .i64 (nth (bys s) 0))).setCell ⟨w.heap.size, 1, none⟩ (.int .i64 (nth (bys s) 1))).setCell ⟨w.heap.size, 2, none⟩ (.int .i64 (nth (bys s) 2))).setCell ⟨w.heap.size, 3, none⟩ (.int .i64 (nth (bys s) 3))).setCell ⟨w.heap.size, 4, none⟩ (.string (s.extract 5 (5 + d)))).setCell ⟨w.heap.size, 5, none⟩ (.string (s.extract (5 + d + 2) (5 + d + 2 + N)))).setCell ⟨w.heap.size, 6, none⟩ (.string (s.extract (5 + d + 2 + N) s.size))) = wf at AF GF ⊢
    have d0 := (blk_cell AF 0 (x := .int .i64 (nth (bys s) 0)) rfl).1
    have d1 := (blk_cell AF 1 (x := .int .i64 (nth (bys s) 1)) rfl).1
    have d2 := (blk_cell AF 2 (x := .int .i64 (nth (bys s) 2)) rfl).1
    have d3 := (blk_cell AF 3 (x := .int .i64 (nth (bys s) 3)) rfl).1
    have d4 := (blk_cell AF 4 (x := .string (s.extract 5 (5 + d))) rfl).1
    have d5 := (blk_cell AF 5 (x := .string (s.extract (5 + d + 2) (5 + d + 2 + N))) rfl).1
    have d6 := (blk_cell AF 6 (x := .string (s.extract (5 + d + 2 + N) s.size)) rfl).1
    refine bodyPost_ret (v := .tuple #[.agg #[.int .i64 (nth (bys s) 0), .int .i64 (nth (bys s) 1), .int .i64 (nth (bys s) 2), .int .i64 (nth (bys s) 3), .string (s.extract 5 (5 + d)), .string (s.extract (5 + d + 2) (5 + d + 2 + N)), .string (s.extract (5 + d + 2 + N) s.size)], .bool (msgB (nth (bys s) 0) (nth (bys s) 1) (nth (bys s) 2) (nth (bys s) 3) (s.extract 5 (5 + d)) (s.extract (5 + d + 2) (5 + d + 2 + N)) (s.extract (5 + d + 2 + N) s.size))]) (by simp [results, Tryz.results121, go_sem, d0, d1, d2, d3, d4, d5, d6]) rfl ⟨rfl, GF⟩

theorem l02ReadMessage_no (s : ByteArray) (w : World) (hs : s.size ≤ 65536) (hno : ∀ h : 4 < s.size, s.size < 7 ∨ s.size < 7 + (s[4]'h).toNat ∨ (7 + (s[4]'h).toNat ≤ s.size ∧ (s.size : Int) ≠ 5 + ((s[4]'h).toNat : Int) + 2 + beN (bys (s.extract (5 + (s[4]'h).toNat) (5 + (s[4]'h).toNat + 2))) + 8)) :
    Calls Tryz.prog 121 #[.string s] w fun e w' => e = .returned (.tuple #[.agg zmsg, .bool false]) ∧ Below w.heap.size w w' := by
  by_cases h7 : s.size < 7
  · have h6 : (s.size : Int) < 7 := by omega
    clear hno
    go_enter Tryz.func121, Tryz.ntmps121
    go_wp2_with fail
    refine bodyPost_ret (v := .tuple #[.agg zmsg, .bool false]) (by simp [zmsg, results, Tryz.results121, go_sem]) rfl ⟨rfl, (Below.refl _ _).alloc (Nat.le_refl _) _⟩
  have h4 : 4 < s.size := by omega
  have h6 : (7 : Int) ≤ (s.size : Int) := by omega
  have k4 : (4 : Int) < (s.size : Int) := by omega
  have hno' := hno h4
  have hd8 := (s[4]'h4).toNat_lt
  obtain ⟨d, hd⟩ : ∃ d, (s[4]'h4).toNat = d := ⟨_, rfl⟩
  rw [hd] at hno' hd8
  clear hno
  by_cases hl : s.size < 7 + d
  · have hl' : (s.size : Int) < (7 : Int) + (d : Int) := by omega
    clear hno'
    go_enter Tryz.func121, Tryz.ntmps121
    go_wp2_with fail
    refine bodyPost_ret (v := .tuple #[.agg zmsg, .bool false]) (by simp [zmsg, results, Tryz.results121, go_sem]) rfl ⟨rfl, (Below.refl _ _).alloc (Nat.le_refl _) _⟩
  have hd1 : (7 : Int) + (d : Int) ≤ (s.size : Int) := by omega
  have hne : (s.size : Int) ≠ 5 + (d : Int) + 2 + beN (bys (s.extract (5 + d) (5 + d + 2))) + 8 := by
    rcases hno' with h | h | ⟨_, h⟩
    · omega
    · omega
    · exact h
  have hr := beN_range (bys (s.extract (5 + d) (5 + d + 2))) (bys_range _)
  have hlen : (bys (s.extract (5 + d) (5 + d + 2))).length = 2 := by rw [bys_length, ext_size]; omega
  rw [hlen] at hr
  have e1 := ext_small s (5 + d) (5 + d + 2) (by omega)
  have E1 : Hid (∀ _ : Unit, (s.extract (5 + d) (5 + d + 2)).size ≤ 4) := fun _ => e1
  obtain ⟨m, hm⟩ : ∃ m, beN (bys (s.extract (5 + d) (5 + d + 2))) = m := ⟨_, rfl⟩
  rw [hm] at hne hr
  have HM : Hid (beN (bys (s.extract (5 + d) (5 + d + 2))) = m) := hm
  have hm0 : 0 ≤ m := hr.1
  have hm1 : m < 65536 := hr.2
  have hnb : ((s.size : Int) != (5 : Int) + (d : Int) + 2 + m + 8) = true := by rw [bne_iff_ne]; exact hne
  have hs' : (s.size : Int) ≤ 65536 := by omega
  clear hno' hl e1 hr hlen hm hne
  go_enter Tryz.func121, Tryz.ntmps121
  go_wp2_with fail
  refine (l02Of_any (s.extract (5 + d) (5 + d + 2)) _ (E1.out ())).mono ?_
  rintro e w' ⟨rfl, rfl⟩
  rw [HM.out]
  go_wp2_with fail
  refine bodyPost_ret (v := .tuple #[.agg zmsg, .bool false]) (by simp [zmsg, results, Tryz.results121, go_sem]) rfl ⟨rfl, (Below.refl _ _).alloc (Nat.le_refl _) _⟩
end Go.Proofs.YtondmbeccpekiaaGreatDoor.Om

/- Messages are read: both ReadMessage functions answer alike. -/
namespace Go.Proofs.YtondmbeccpekiaaGreatDoor.Om
open Go.RowKit Go.Proofs.YtondmbeccpekiaaGreatDoor.Sl Go.Proofs.YtondmbeccpekiaaGreatDoor.By Go.Proofs.YtondmbeccpekiaaGreatDoor.Ap Go.Proofs.YtondmbeccpekiaaGreatDoor.Rq Go.Proofs.YtondmbeccpekiaaGreatDoor.Rr Go.Proofs.YtondmbeccpekiaaGreatDoor.Of Go.Proofs.YtondmbeccpekiaaGreatDoor.Ms

def readMsg (xs : List Int) : Value := rjV zmsg #[.int .i64 (beN (tkB 1 xs)), .int .i64 (beN (tkB 1 (tkR 1 xs))), .int .i64 (beN (tkB 1 (tkR 1 (tkR 1 xs)))), .int .i64 (beN (tkB 1 (tkR 1 (tkR 1 (tkR 1 xs))))), .string (mgDg xs), .string (mgBd xs), .string (mgMc xs)] (decide (65536 < xs.length)) (!mgSh xs false && ((mgRest xs).isEmpty && msgB (beN (tkB 1 xs)) (beN (tkB 1 (tkR 1 xs))) (beN (tkB 1 (tkR 1 (tkR 1 xs)))) (beN (tkB 1 (tkR 1 (tkR 1 (tkR 1 xs))))) (mgDg xs) (mgBd xs) (mgMc xs)))
theorem readMsg_form (xs : List Int) : ∃ (kd vw sq fr : Int) (dg bd mc : ByteArray) (code : Int), readMsg xs = .tuple #[.agg #[.int .i64 kd, .int .i64 vw, .int .i64 sq, .int .i64 fr, .string dg, .string bd, .string mc], .int .i64 code] := by
  unfold readMsg rjV
  split
  · exact ⟨0, 0, 0, 0, ⟨#[]⟩, ⟨#[]⟩, ⟨#[]⟩, 2, rfl⟩
  · split
    · exact ⟨_, _, _, _, _, _, _, 0, rfl⟩
    · exact ⟨0, 0, 0, 0, ⟨#[]⟩, ⟨#[]⟩, ⟨#[]⟩, 3, rfl⟩
theorem ext_list (xs : List Int) (hr : ∀ x ∈ xs, 0 ≤ x ∧ x ≤ 255) (a b : Nat) : (strOfNums xs).extract a b = strOfNums ((xs.take b).drop a) := by
  rw [← str_bys ((strOfNums xs).extract a b), bys_ext, bys_str xs hr]
theorem eq_msg_yes (xs : List Int) (hr : ∀ x ∈ xs, 0 ≤ x ∧ x ≤ 255) (hq : xs.length = 15 + mD xs + mN xs) :
    beN (tkB 1 xs) = nth (bys (strOfNums xs)) 0 ∧ beN (tkB 1 (tkR 1 xs)) = nth (bys (strOfNums xs)) 1 ∧ beN (tkB 1 (tkR 1 (tkR 1 xs))) = nth (bys (strOfNums xs)) 2 ∧ beN (tkB 1 (tkR 1 (tkR 1 (tkR 1 xs)))) = nth (bys (strOfNums xs)) 3 ∧
      mgDg xs = (strOfNums xs).extract 5 (5 + mD xs) ∧ mgBd xs = (strOfNums xs).extract (5 + mD xs + 2) (5 + mD xs + 2 + mN xs) ∧ mgMc xs = (strOfNums xs).extract (5 + mD xs + 2 + mN xs) (strOfNums xs).size ∧ mgRest xs = [] ∧ mgSh xs false = false := by
  obtain ⟨a1, a2, a3, a4, a5, a6, a7, a8, a9⟩ := msg_open xs (by omega)
  rw [bys_str xs hr]
  refine ⟨a1, a2, a3, a4, ?_, ?_, ?_, ?_, a9⟩
  · rw [a5, ext_list xs hr, List.take_drop]
  · rw [a6, ext_list xs hr, List.take_drop, show 5 + mD xs + 2 = 7 + mD xs by omega]
  · rw [a7, ext_list xs hr, strOfNums_size, List.take_drop, show 7 + mD xs + mN xs + 8 = xs.length by omega, show 5 + mD xs + 2 + mN xs = 7 + mD xs + mN xs by omega]
  · rw [a8]; exact List.drop_eq_nil_of_le (by omega)
theorem eq_msg_no (xs : List Int) (hno : xs.length ≠ 15 + mD xs + mN xs) (b : Bool) : (!mgSh xs false && ((mgRest xs).isEmpty && b)) = false := by
  cases h : mgSh xs false
  · have hl := msg_inv xs h
    obtain ⟨_, _, _, _, _, _, _, a8, _⟩ := msg_open xs hl
    have : (mgRest xs).isEmpty = false := by
      rw [a8]
      cases he : xs.drop (15 + mD xs + mN xs) with
      | nil =>
        have := congrArg List.length he
        rw [List.length_drop] at this
        simp at this
        omega
      | cons y ys => rfl
    rw [this]
    rfl
  · rfl
theorem mD_lt (xs : List Int) (hr : ∀ x ∈ xs, 0 ≤ x ∧ x ≤ 255) : mD xs < 256 := by unfold mD; have := range_at hr 4; omega
theorem mN_eq (xs : List Int) (hr : ∀ x ∈ xs, 0 ≤ x ∧ x ≤ 255) : beN (bys ((strOfNums xs).extract (5 + mD xs) (5 + mD xs + 2))) = (mN xs : Int) := by
  rw [bys_ext, bys_str xs hr]
  unfold mN
  rw [List.take_drop]
  have := beN_range ((xs.take (5 + mD xs + 2)).drop (5 + mD xs)) (fun x hx => hr x (List.mem_of_mem_take (List.mem_of_mem_drop hx)))
  omega

set_option maxHeartbeats 400000 in
theorem implReadMessage_any (v : Value) (xs : List Int) (w : World) (h : RowB w v xs) (hl : xs.length ≤ 1048576) :
    Calls Tryz.prog 200 #[v] w fun e w' => e = .returned (readMsg xs) ∧ Below w.heap.size w w' := by
  obtain ⟨kd, vw, sq, fr, dg, bd, mc, code, hf⟩ := readMsg_form xs
  have HF : Hid (readMsg xs = .tuple #[.agg #[.int .i64 kd, .int .i64 vw, .int .i64 sq, .int .i64 fr, .string dg, .string bd, .string mc], .int .i64 code]) := hf
  have h' := h
  obtain ⟨a, cap, rfl, _, _⟩ := h
  have HR : Hid (RowB w (.slice a xs.length cap) xs) := h'
  clear h' hf
  go_enter Tryz.func200, Tryz.ntmps200
  go_wp2_with fail
  refine (readJustMsg_gen _ xs _ (HR.out.below ((Below.refl _ _).alloc (Nat.le_refl _) _)) hl (beN (tkB 1 xs)) (beN (tkB 1 (tkR 1 xs))) (beN (tkB 1 (tkR 1 (tkR 1 xs)))) (beN (tkB 1 (tkR 1 (tkR 1 (tkR 1 xs))))) (mgDg xs) (mgBd xs) (mgMc xs) (mgRest xs) (mgSh xs false) (fun W p B h1 h2 h3 h4 => takeMessage_any p B xs false W h1 h2 h3 h4)).mono ?_
  rintro e w1 ⟨rfl, b1⟩
  rw [show rjV zmsg #[.int .i64 (beN (tkB 1 xs)), .int .i64 (beN (tkB 1 (tkR 1 xs))), .int .i64 (beN (tkB 1 (tkR 1 (tkR 1 xs)))), .int .i64 (beN (tkB 1 (tkR 1 (tkR 1 (tkR 1 xs))))), .string (mgDg xs), .string (mgBd xs), .string (mgMc xs)] (decide (65536 < xs.length)) (!mgSh xs false && ((mgRest xs).isEmpty && msgB (beN (tkB 1 xs)) (beN (tkB 1 (tkR 1 xs))) (beN (tkB 1 (tkR 1 (tkR 1 xs)))) (beN (tkB 1 (tkR 1 (tkR 1 (tkR 1 xs))))) (mgDg xs) (mgBd xs) (mgMc xs))) = readMsg xs from rfl, HF.out]
  have A1 : w1.heap[w.heap.size]? = some (.cells zmsg 59 (0, 0)) := (b1.block w.heap.size (by simp)).trans (blk_new w zmsg 59)
  have G1 := box_old (box_first b1)
  clear b1 HR
  obtain ⟨zc0, zf0⟩ := blk_cell A1 0 (x := .int .i64 0) rfl
  obtain ⟨zc1, zf1⟩ := blk_cell A1 1 (x := .int .i64 0) rfl
  obtain ⟨zc2, zf2⟩ := blk_cell A1 2 (x := .int .i64 0) rfl
  obtain ⟨zc3, zf3⟩ := blk_cell A1 3 (x := .int .i64 0) rfl
  obtain ⟨zc4, zf4⟩ := blk_cell A1 4 (x := .string ⟨#[]⟩) rfl
  obtain ⟨zc5, zf5⟩ := blk_cell A1 5 (x := .string ⟨#[]⟩) rfl
  obtain ⟨zc6, zf6⟩ := blk_cell A1 6 (x := .string ⟨#[]⟩) rfl
  have AF : (((((((w1.setCell ⟨w.heap.size, 0, none⟩ (.int .i64 kd)).setCell ⟨w.heap.size, 1, none⟩ (.int .i64 vw)).setCell ⟨w.heap.size, 2, none⟩ (.int .i64 sq)).setCell ⟨w.heap.size, 3, none⟩ (.int .i64 fr)).setCell ⟨w.heap.size, 4, none⟩ (.string dg)).setCell ⟨w.heap.size, 5, none⟩ (.string bd)).setCell ⟨w.heap.size, 6, none⟩ (.string mc)).heap[w.heap.size]? = some (.cells #[.int .i64 kd, .int .i64 vw, .int .i64 sq, .int .i64 fr, .string dg, .string bd, .string mc] 59 (0, 0)) := (blk_set (blk_set (blk_set (blk_set (blk_set (blk_set (blk_set A1 0 (.int .i64 kd)) 1 (.int .i64 vw)) 2 (.int .i64 sq)) 3 (.int .i64 fr)) 4 (.string dg)) 5 (.string bd)) 6 (.string mc))
  have GF : Below w.heap.size w (((((((w1.setCell ⟨w.heap.size, 0, none⟩ (.int .i64 kd)).setCell ⟨w.heap.size, 1, none⟩ (.int .i64 vw)).setCell ⟨w.heap.size, 2, none⟩ (.int .i64 sq)).setCell ⟨w.heap.size, 3, none⟩ (.int .i64 fr)).setCell ⟨w.heap.size, 4, none⟩ (.string dg)).setCell ⟨w.heap.size, 5, none⟩ (.string bd)).setCell ⟨w.heap.size, 6, none⟩ (.string mc)) := (Below.setCell (Below.setCell (Below.setCell (Below.setCell (Below.setCell (Below.setCell (Below.setCell G1 (p := ⟨w.heap.size, 0, none⟩) (Nat.le_refl _) (.int .i64 kd)) (p := ⟨w.heap.size, 1, none⟩) (Nat.le_refl _) (.int .i64 vw)) (p := ⟨w.heap.size, 2, none⟩) (Nat.le_refl _) (.int .i64 sq)) (p := ⟨w.heap.size, 3, none⟩) (Nat.le_refl _) (.int .i64 fr)) (p := ⟨w.heap.size, 4, none⟩) (Nat.le_refl _) (.string dg)) (p := ⟨w.heap.size, 5, none⟩) (Nat.le_refl _) (.string bd)) (p := ⟨w.heap.size, 6, none⟩) (Nat.le_refl _) (.string mc))
  go_wp2_with fail
  generalize (((((((w1.setCell ⟨w.heap.size, 0, none⟩ (.int .i64 kd)).setCell ⟨w.heap.size, 1, none⟩ (.int .i64 vw)).setCell ⟨w.heap.size, 2, none⟩ (.int .i64 sq)).setCell ⟨w.heap.size, 3, none⟩ (.int .i64 fr)).setCell ⟨w.heap.size, 4, none⟩ (.string dg)).setCell ⟨w.heap.size, 5, none⟩ (.string bd)).setCell ⟨w.heap.size, 6, none⟩ (.string mc)) = wf at AF GF ⊢
  have d0 := (blk_cell AF 0 (x := .int .i64 kd) rfl).1
  have d1 := (blk_cell AF 1 (x := .int .i64 vw) rfl).1
  have d2 := (blk_cell AF 2 (x := .int .i64 sq) rfl).1
  have d3 := (blk_cell AF 3 (x := .int .i64 fr) rfl).1
  have d4 := (blk_cell AF 4 (x := .string dg) rfl).1
  have d5 := (blk_cell AF 5 (x := .string bd) rfl).1
  have d6 := (blk_cell AF 6 (x := .string mc) rfl).1
  refine bodyPost_ret (v := .tuple #[.agg #[.int .i64 kd, .int .i64 vw, .int .i64 sq, .int .i64 fr, .string dg, .string bd, .string mc], .int .i64 code]) (by simp [results, Tryz.results200, go_sem, d0, d1, d2, d3, d4, d5, d6]) rfl ⟨ret_val HF.out.symm, GF⟩

end Go.Proofs.YtondmbeccpekiaaGreatDoor.Om

/- Batches' bytes: the program. -/
namespace Go.Proofs.YtondmbeccpekiaaGreatDoor.Bt
open Go.RowKit Go.Proofs.YtondmbeccpekiaaGreatDoor.Sl Go.Proofs.YtondmbeccpekiaaGreatDoor.By Go.Proofs.YtondmbeccpekiaaGreatDoor.Rg Go.Proofs.YtondmbeccpekiaaGreatDoor.Gr Go.Proofs.YtondmbeccpekiaaGreatDoor.Rq Go.Proofs.YtondmbeccpekiaaGreatDoor.Ap Go.Proofs.YtondmbeccpekiaaGreatDoor.Pu Go.Proofs.YtondmbeccpekiaaGreatDoor.Rp Go.Proofs.YtondmbeccpekiaaGreatDoor.Bo

def rdBs (x : Rd) : List Int := nums x.f 1 1 ++ (nums x.x 4 4 ++ bys x.m)
def rsBs (rs : List Rd) : List Int := rs.flatMap rdBs
def batBs (nl : Bool) (c st k l : Int) (n : ByteArray) (rs : List Rd) : List Int := if nl then [0] else nums ((rs.length : Int) + 1) 1 1 ++ rsBs rs ++ reqBs c st k l n
theorem rsBs_len : ∀ (rs : List Rd), (∀ x ∈ rs, x.m.size = 8) → (rsBs rs).length = 13 * rs.length
  | [], _ => by simp [rsBs]
  | x :: xs, h => by
    have ih := rsBs_len xs fun y hy => h y (List.mem_cons_of_mem _ hy)
    unfold rsBs at ih ⊢
    rw [List.flatMap_cons, List.length_append, ih]
    unfold rdBs
    simp only [List.length_append, nums_length, bys_length, h x List.mem_cons_self, List.length_cons]
    omega
theorem bOK_parts {c st k l : Int} {n : ByteArray} {rs : List Rd} (h : bOK false c st k l n rs = true) : n.size ≤ 12 ∧ rs.length ≤ 7 ∧ (∀ x ∈ rs, x.m.size = 8) ∧ reqB c st k l n = true ∧ rOK 0 rs = true := by
  have h' : (reqB c st k l n && rOK 0 rs) = true := h
  rw [Bool.and_eq_true] at h'
  exact ⟨req_small h'.1, rOK_seven h'.2, fun x hx => (rOK_small _ _ h'.2 x hx).1, h'.1, h'.2⟩
end Go.Proofs.YtondmbeccpekiaaGreatDoor.Bt
