/- Texts put together: PuMsg, SpMsg, EqMsg, Rjb. -/
import Derived.Test.YtdeologdmdimoaaJFnRequests0
import Derived.Test.YtdeologdmdimoaaMsg2
import Derived.Test.YtdeologdmdimoaaTkb
import Derived.Deep.CutRange
import Derived.Deep.DeepCutAuto
/- A message's bytes, as impl takes them: in plain lists. -/
namespace Go.Proofs.Ytdeologdmdimoaa.Om
open Go.RowKit Go.Proofs.Ytdeologdmdimoaa.Sl Go.Proofs.Ytdeologdmdimoaa.By Go.Proofs.Ytdeologdmdimoaa.Ap Go.Proofs.Ytdeologdmdimoaa.Rq Go.Proofs.Ytdeologdmdimoaa.Rr Go.Proofs.Ytdeologdmdimoaa.Of

theorem tkS_false {n : Nat} {xs : List Int} {sh : Bool} : tkS n xs sh = false ↔ sh = false ∧ n ≤ xs.length := by
  unfold tkS; simp
theorem txtS_false {n : Nat} {xs : List Int} {sh : Bool} : txtS n xs sh = false ↔ (sh = false ∧ n ≤ xs.length) ∧ txtN n xs ≤ (tkR n xs).length := by
  unfold txtS; rw [tkS_false, tkS_false]
def mD (xs : List Int) : Nat := (nth xs 4).toNat
def mN (xs : List Int) : Nat := (beN ((xs.drop (5 + mD xs)).take 2)).toNat
theorem tkR_yes {n : Nat} {xs : List Int} (h : n ≤ xs.length) : tkR n xs = xs.drop n := (tk_yes h).2.1
theorem tkB_yes {n : Nat} {xs : List Int} (h : n ≤ xs.length) : tkB n xs = xs.take n := (tk_yes h).1
theorem four (xs : List Int) (h : 4 ≤ xs.length) : tkR 1 xs = xs.drop 1 ∧ tkR 1 (tkR 1 xs) = xs.drop 2 ∧ tkR 1 (tkR 1 (tkR 1 xs)) = xs.drop 3 ∧ mg3 xs = xs.drop 4 := by
  have a1 := tkR_yes (n := 1) (xs := xs) (by omega)
  have a2 := tkR_yes (n := 1) (xs := xs.drop 1) (by rw [List.length_drop]; omega)
  have a3 := tkR_yes (n := 1) (xs := xs.drop 2) (by rw [List.length_drop]; omega)
  have a4 := tkR_yes (n := 1) (xs := xs.drop 3) (by rw [List.length_drop]; omega)
  rw [List.drop_drop] at a2 a3 a4
  refine ⟨a1, by rw [a1, a2], by rw [a1, a2, a3], by unfold mg3; rw [a1, a2, a3, a4]⟩
theorem txtN1 (xs : List Int) (h : 5 ≤ xs.length) : txtN 1 (xs.drop 4) = mD xs ∧ tkR 1 (xs.drop 4) = xs.drop 5 := by
  have hl : 1 ≤ (xs.drop 4).length := by rw [List.length_drop]; omega
  unfold txtN mD
  rw [tkB_yes hl, be1 (by omega), nth_drop, tkR_yes hl, List.drop_drop]
  exact ⟨rfl, rfl⟩
theorem txtN2 (xs : List Int) (h : 7 + mD xs ≤ xs.length) : txtN 2 (xs.drop (5 + mD xs)) = mN xs ∧ tkR 2 (xs.drop (5 + mD xs)) = xs.drop (7 + mD xs) := by
  have hl : 2 ≤ (xs.drop (5 + mD xs)).length := by rw [List.length_drop]; omega
  unfold txtN mN
  rw [tkB_yes hl, tkR_yes hl, List.drop_drop]
  exact ⟨rfl, by rw [show 5 + mD xs + 2 = 7 + mD xs by omega]⟩
theorem msg_open (xs : List Int) (hl : 15 + mD xs + mN xs ≤ xs.length) :
    beN (tkB 1 xs) = nth xs 0 ∧ beN (tkB 1 (tkR 1 xs)) = nth xs 1 ∧ beN (tkB 1 (tkR 1 (tkR 1 xs))) = nth xs 2 ∧ beN (tkB 1 (tkR 1 (tkR 1 (tkR 1 xs)))) = nth xs 3 ∧
      mgDg xs = strOfNums ((xs.drop 5).take (mD xs)) ∧ mgBd xs = strOfNums ((xs.drop (7 + mD xs)).take (mN xs)) ∧ mgMc xs = strOfNums ((xs.drop (7 + mD xs + mN xs)).take 8) ∧ mgRest xs = xs.drop (15 + mD xs + mN xs) ∧ mgSh xs false = false := by
  obtain ⟨a1, a2, a3, a4⟩ := four xs (by omega)
  obtain ⟨b1, b2⟩ := txtN1 xs (by omega)
  obtain ⟨c1, c2⟩ := txtN2 xs (by omega)
  have h5 : mD xs ≤ (xs.drop 5).length := by rw [List.length_drop]; omega
  have r1 : txtR 1 (mg3 xs) = xs.drop (5 + mD xs) := by unfold txtR; rw [a4, b1, b2, tkR_yes h5, List.drop_drop]
  have h7 : mN xs ≤ (xs.drop (7 + mD xs)).length := by rw [List.length_drop]; omega
  have r2 : txtR 2 (txtR 1 (mg3 xs)) = xs.drop (7 + mD xs + mN xs) := by rw [r1]; unfold txtR; rw [c1, c2, tkR_yes h7, List.drop_drop]
  have h8 : 8 ≤ (xs.drop (7 + mD xs + mN xs)).length := by rw [List.length_drop]; omega
  refine ⟨?_, ?_, ?_, ?_, ?_, ?_, ?_, ?_, ?_⟩
  · rw [tkB_yes (by omega), be1 (by omega)]
  · rw [a1, tkB_yes (by rw [List.length_drop]; omega), be1 (by rw [List.length_drop]; omega), nth_drop]
  · rw [a2, tkB_yes (by rw [List.length_drop]; omega), be1 (by rw [List.length_drop]; omega), nth_drop]
  · rw [a3, tkB_yes (by rw [List.length_drop]; omega), be1 (by rw [List.length_drop]; omega), nth_drop]
  · unfold mgDg txtB; rw [a4, b1, b2, tkB_yes h5]
  · unfold mgBd txtB; rw [r1, c1, c2, tkB_yes h7]
  · unfold mgMc; rw [r2, tkB_yes h8]
  · unfold mgRest; rw [r2, tkR_yes h8, List.drop_drop, show 7 + mD xs + mN xs + 8 = 15 + mD xs + mN xs by omega]
  · unfold mgSh
    rw [tkS_false, r2, txtS_false, r1, txtS_false, tkS_false, tkS_false, tkS_false, tkS_false, a3, a2, a1, a4, b1, b2, c1, c2]
    simp only [List.length_drop]
    exact ⟨⟨⟨⟨⟨⟨⟨⟨⟨trivial, by omega⟩, by omega⟩, by omega⟩, by omega⟩, by omega⟩, by rw [List.length_drop] at h5; omega⟩, by omega⟩, by rw [List.length_drop] at h7; omega⟩, by omega⟩
theorem msg_inv (xs : List Int) (h : mgSh xs false = false) : 15 + mD xs + mN xs ≤ xs.length := by
  unfold mgSh at h
  rw [tkS_false, txtS_false, txtS_false, tkS_false, tkS_false, tkS_false, tkS_false] at h
  obtain ⟨⟨⟨⟨⟨⟨⟨⟨⟨_, l1⟩, l2⟩, l3⟩, l4⟩, m1⟩, m2⟩, m3⟩, m4⟩, m5⟩ := h
  have t1 := tkR_yes l1
  rw [t1] at l2 l3 l4
  have t2 := tkR_yes l2
  rw [t2] at l3 l4
  have t3 := tkR_yes l3
  rw [t3] at l4
  simp only [List.length_drop] at l2 l3 l4
  obtain ⟨a1, a2, a3, a4⟩ := four xs (by omega)
  rw [a4] at m1 m2
  rw [List.length_drop] at m1
  obtain ⟨b1, b2⟩ := txtN1 xs (by omega)
  rw [b1, b2] at m2
  have r1 : txtR 1 (mg3 xs) = xs.drop (5 + mD xs) := by unfold txtR; rw [a4, b1, b2, tkR_yes m2, List.drop_drop]
  rw [List.length_drop] at m2
  rw [r1] at m3 m4 m5
  rw [List.length_drop] at m3
  obtain ⟨c1, c2⟩ := txtN2 xs (by omega)
  rw [c1, c2] at m4
  have r2 : txtR 2 (xs.drop (5 + mD xs)) = xs.drop (7 + mD xs + mN xs) := by unfold txtR; rw [c1, c2, tkR_yes m4, List.drop_drop]
  rw [r2, List.length_drop] at m5
  rw [List.length_drop] at m4
  omega
end Go.Proofs.Ytdeologdmdimoaa.Om

/- The specification's ReadMessage. -/
namespace Go.Proofs.Ytdeologdmdimoaa.Om
open Go.RowKit Go.Proofs.Ytdeologdmdimoaa.Sl Go.Proofs.Ytdeologdmdimoaa.By Go.Proofs.Ytdeologdmdimoaa.Ap Go.Proofs.Ytdeologdmdimoaa.Rq Go.Proofs.Ytdeologdmdimoaa.Rr Go.Proofs.Ytdeologdmdimoaa.Of Go.Proofs.Ytdeologdmdimoaa.Ms

theorem fin7 {w : World} {A B : Array Value} (h : A = B) : ((w.alloc (.cells zmsg 35)).alloc (.cells A 35)).drew.heap[w.heap.size]? = some (.cells zmsg 35 (0, 0)) ∧
    ((w.alloc (.cells zmsg 35)).alloc (.cells A 35)).drew.heap[w.heap.size + 1]? = some (.cells B 35 (0, 0)) ∧ Below w.heap.size w ((w.alloc (.cells zmsg 35)).alloc (.cells A 35)).drew := by
  subst h
  refine ⟨(Below.heap_alloc _ _ _ (by simp)).trans (blk_new _ _ _), ?_, (((Below.refl _ _).alloc (Nat.le_refl _) _).alloc (by simp) _).drew⟩
  have := blk_new (w.alloc (.cells zmsg 35)) A 35
  rw [size_new] at this
  exact this

set_option maxRecDepth 100000 in
set_option maxHeartbeats 1600000 in
theorem l02ReadMessage_yes (s : ByteArray) (w : World) (d N : Nat) (hs : s.size ≤ 65536) (h7 : 4 < s.size) (hd : (s[4]'h7).toNat = d) (hN : beN (bys (s.extract (5 + d) (5 + d + 2))) = (N : Int)) (hq : s.size = 5 + d + 2 + N + 8) :
    Calls Try.prog 55 #[.string s] w fun e w' => e = .returned (.tuple #[.agg #[.int .i64 (nth (bys s) 0), .int .i64 (nth (bys s) 1), .int .i64 (nth (bys s) 2), .int .i64 (nth (bys s) 3), .string (s.extract 5 (5 + d)), .string (s.extract (5 + d + 2) (5 + d + 2 + N)), .string (s.extract (5 + d + 2 + N) s.size)], .bool (msgB (nth (bys s) 0) (nth (bys s) 1) (nth (bys s) 2) (nth (bys s) 3) (s.extract 5 (5 + d)) (s.extract (5 + d + 2) (5 + d + 2 + N)) (s.extract (5 + d + 2 + N) s.size))]) ∧ Below w.heap.size w w' := by
  have h6 : (7 : Int) ≤ (s.size : Int) := by omega
  have hd1 : (7 : Int) + (d : Int) ≤ (s.size : Int) := by omega
  have hd8 : d < 256 := by rw [← hd]; exact (s[4]'h7).toNat_lt
  have k4 : (4 : Int) < (s.size : Int) := by omega
  have k1 : (1 : Int) < (s.size : Int) := by omega
  have k2 : (2 : Int) < (s.size : Int) := by omega
  have k3 : (3 : Int) < (s.size : Int) := by omega
  have k5 : (5 : Int) + (d : Int) ≤ (s.size : Int) := by omega
  have k6 : (5 : Int) + (d : Int) + 2 + (N : Int) ≤ (s.size : Int) := by omega
  have k7 : (0 : Int) ≤ (5 : Int) + (d : Int) + 2 := by omega
  have k8 : (5 : Int) + (d : Int) + 2 ≤ (5 : Int) + (d : Int) + 2 + (N : Int) := by omega
  have k9 : (0 : Int) ≤ (5 : Int) + (d : Int) + 2 + (N : Int) := by omega
  have k10 : (5 : Int) ≤ (5 : Int) + (d : Int) := by omega
  have i0 : 0 < s.size := by omega
  have i1 : 1 < s.size := by omega
  have i2 : 2 < s.size := by omega
  have i3 : 3 < s.size := by omega
  have wA : IntKind.i64.wrap ((5 : Int) + (d : Int) + 2) = (5 : Int) + (d : Int) + 2 := by rw [IntKind.wrap_i64]; omega
  have wB : IntKind.i64.wrap ((5 : Int) + (d : Int) + 2 + (N : Int)) = (5 : Int) + (d : Int) + 2 + (N : Int) := by rw [IntKind.wrap_i64]; omega
  have hne : ((s.size : Int) != (5 : Int) + (d : Int) + 2 + (N : Int) + 8) = false := by simp; omega
  have hs' : (s.size : Int) ≤ 65536 := by omega
  have hNs : (N : Int) ≤ 65536 := by omega
  have e1 := ext_small s (5 + d) (5 + d + 2) (by omega)
  have E1 : Hid (∀ _ : Unit, (s.extract (5 + d) (5 + d + 2)).size ≤ 4) := fun _ => e1
  have HNN : Hid (beN (bys (s.extract (5 + d) (5 + d + 2))) = (N : Int)) := hN
  have HV : Hid ((#[.int .i64 (IntKind.i64.wrap ((s[0]'i0).toNat : Int)), .int .i64 (IntKind.i64.wrap ((s[1]'i1).toNat : Int)), .int .i64 (IntKind.i64.wrap ((s[2]'i2).toNat : Int)), .int .i64 (IntKind.i64.wrap ((s[3]'i3).toNat : Int)), .string (s.extract 5 (5 + d)), .string (s.extract (5 + d + 2) (5 + d + 2 + N)), .string (s.extract (5 + d + 2 + N) s.size)] : Array Value) = #[.int .i64 (nth (bys s) 0), .int .i64 (nth (bys s) 1), .int .i64 (nth (bys s) 2), .int .i64 (nth (bys s) 3), .string (s.extract 5 (5 + d)), .string (s.extract (5 + d + 2) (5 + d + 2 + N)), .string (s.extract (5 + d + 2 + N) s.size)]) := by
    show _ = _
    have b0 := (s[0]'i0).toNat_lt
    have b1 := (s[1]'i1).toNat_lt
    have b2 := (s[2]'i2).toNat_lt
    have b3 := (s[3]'i3).toNat_lt
    rw [bys_at s 0 i0, bys_at s 1 i1, bys_at s 2 i2, bys_at s 3 i3, Of.wrap_small _ b0, Of.wrap_small _ b1, Of.wrap_small _ b2, Of.wrap_small _ b3]
  clear e1 hN hq
  go_enter Try.func55, Try.ntmps55
  go_wp2_with fail
  refine (l02Of_any (s.extract (5 + d) (5 + d + 2)) _ (E1.out ())).mono ?_
  rintro e w' ⟨rfl, rfl⟩
  rw [HNN.out]
  go_upto_region 7 with fail
  go_cut [6] (fun s6 wx => s6 = .pointer (some ⟨w.heap.size + 1, 0, none⟩) ∧ wx.heap[w.heap.size]? = some (.cells zmsg 35 (0, 0)) ∧ wx.heap[w.heap.size + 1]? = some (.cells #[.int .i64 (nth (bys s) 0), .int .i64 (nth (bys s) 1), .int .i64 (nth (bys s) 2), .int .i64 (nth (bys s) 3), .string (s.extract 5 (5 + d)), .string (s.extract (5 + d + 2) (5 + d + 2 + N)), .string (s.extract (5 + d + 2 + N) s.size)] 35 (0, 0)) ∧ Below w.heap.size w wx)
  case first =>
    refine wp_region_any (by kernel_rfl) ?_
    change wpAny _ _ _ _ _ _ _ (World.drew _)
    refine wpAny_take (i := 0) (v := ?v1) rfl (by kernel_rfl) (by kernel_rfl) (by kernel_rfl) (fun _ _ _ h => h) (Or.inl ⟨by rfl, ?h1⟩) ?r1
    case h1 => intro wz; go_simp; try (with_reducible rfl)
    refine wpAny_take (i := 1) (v := ?v2) rfl (by kernel_rfl) (by kernel_rfl) (by kernel_rfl) (fun _ _ _ h => h) (Or.inl ⟨by rfl, ?h2⟩) ?r2
    case h2 => intro wz; go_simp; try (with_reducible rfl)
    refine wpAny_take (i := 2) (v := ?v3) rfl (by kernel_rfl) (by kernel_rfl) (by kernel_rfl) (fun _ _ _ h => h) (Or.inl ⟨by rfl, ?h3⟩) ?r3
    case h3 => intro wz; go_simp; try (with_reducible rfl)
    refine wpAny_take (i := 3) (v := ?v4) rfl (by kernel_rfl) (by kernel_rfl) (by kernel_rfl) (fun _ _ _ h => h) (Or.inl ⟨by rfl, ?h4⟩) ?r4
    case h4 => intro wz; go_simp; try (with_reducible rfl)
    refine wpAny_take (i := 4) (v := ?v5) rfl (by kernel_rfl) (by kernel_rfl) (by kernel_rfl) (fun _ _ _ h => h) (Or.inl ⟨by rfl, ?h5⟩) ?r5
    case h5 => intro wz; go_simp; try (with_reducible rfl)
    refine wpAny_take (i := 5) (v := ?v6) rfl (by kernel_rfl) (by kernel_rfl) (by kernel_rfl) (fun _ _ _ h => h) (Or.inl ⟨by rfl, ?h6⟩) ?r6
    case h6 => intro wz; go_simp; try (with_reducible rfl)
    refine wpAny_take (i := 6) (v := ?v7) rfl (by kernel_rfl) (by kernel_rfl) (by kernel_rfl) (fun _ _ _ h => h) (Or.inl ⟨by rfl, ?h7⟩) ?r7
    case h7 => intro wz; go_simp; try (with_reducible rfl)
    refine wpAny_take (i := 7) (v := ?v8) rfl (by kernel_rfl) (by kernel_rfl) (by kernel_rfl) (fun _ _ _ h => h) (Or.inl ⟨by rfl, ?h8⟩) ?r8
    case h8 => intro wz; go_simp; try (with_reducible rfl)
    refine wpAny_take (i := 8) (v := ?v9) rfl (by kernel_rfl) (by kernel_rfl) (by kernel_rfl) (fun _ _ _ h => h) (Or.inl ⟨by rfl, ?h9⟩) ?r9
    case h9 => intro wz; go_simp; try (with_reducible rfl)
    refine wpAny_take (i := 9) (v := ?v10) rfl (by kernel_rfl) (by kernel_rfl) (by kernel_rfl) (fun _ _ _ h => h) (Or.inl ⟨by rfl, ?h10⟩) ?r10
    case h10 => intro wz; go_simp; try (with_reducible rfl)
    refine wpAny_take (i := 10) (v := ?v11) rfl (by kernel_rfl) (by kernel_rfl) (by kernel_rfl) (fun _ _ _ h => h) (Or.inl ⟨by rfl, ?h11⟩) ?r11
    case h11 => intro wz; go_simp; try (with_reducible rfl)
    refine wpAny_take (i := 11) (v := ?v12) rfl (by kernel_rfl) (by kernel_rfl) (by kernel_rfl) (fun _ _ _ h => h) (Or.inl ⟨by rfl, ?h12⟩) ?r12
    case h12 => intro wz; go_simp; try (with_reducible rfl)
    refine wpAny_take (i := 12) (v := ?v13) rfl (by kernel_rfl) (by kernel_rfl) (by kernel_rfl) (fun _ _ _ h => h) (Or.inl ⟨by rfl, ?h13⟩) ?r13
    case h13 => intro wz; go_simp; try (with_reducible rfl)
    refine wpAny_take (i := 13) (v := ?v14) rfl (by kernel_rfl) (by kernel_rfl) (by kernel_rfl) (fun _ _ _ h => h) (Or.inl ⟨by rfl, ?h14⟩) ?r14
    case h14 => intro wz; go_simp; try (with_reducible rfl)
    refine wpAny_take (i := 14) (v := ?v15) rfl (by kernel_rfl) (by kernel_rfl) (by kernel_rfl) (fun _ _ _ h => h) (Or.inl ⟨by rfl, ?h15⟩) ?r15
    case h15 => intro wz; go_simp; try (with_reducible rfl)
    refine wpAny_take (i := 15) (v := ?v16) rfl (by kernel_rfl) (by kernel_rfl) (by kernel_rfl) (fun _ _ _ h => h) (Or.inl ⟨by rfl, ?h16⟩) ?r16
    case h16 => intro wz; go_simp; try (with_reducible rfl)
    refine wpAny_take (i := 16) (v := ?v17) rfl (by kernel_rfl) (by kernel_rfl) (by kernel_rfl) (fun _ _ _ h => h) (Or.inl ⟨by rfl, ?h17⟩) ?r17
    case h17 => intro wz; go_simp; try (with_reducible rfl)
    refine wpAny_take (i := 17) (v := ?v18) rfl (by kernel_rfl) (by kernel_rfl) (by kernel_rfl) (fun _ _ _ h => h) (Or.inl ⟨by rfl, ?h18⟩) ?r18
    case h18 => intro wz; go_simp; try (with_reducible rfl)
    refine wpAny_take (i := 18) (v := ?v19) rfl (by kernel_rfl) (by kernel_rfl) (by kernel_rfl) (fun _ _ _ h => h) (Or.inl ⟨by rfl, ?h19⟩) ?r19
    case h19 => intro wz; go_simp; try (with_reducible rfl)
    refine wpAny_take (i := 19) (v := ?v20) rfl (by kernel_rfl) (by kernel_rfl) (by kernel_rfl) (fun _ _ _ h => h) (Or.inl ⟨by rfl, ?h20⟩) ?r20
    case h20 => intro wz; go_simp; try (with_reducible rfl)
    refine wpAny_take (i := 20) (v := ?v21) rfl (by kernel_rfl) (by kernel_rfl) (by kernel_rfl) (fun _ _ _ h => h) (Or.inl ⟨by rfl, ?h21⟩) ?r21
    case h21 => intro wz; go_simp; try (with_reducible rfl)
    refine wpAny_take (i := 21) (v := ?v22) rfl (by kernel_rfl) (by kernel_rfl) (by kernel_rfl) (fun _ _ _ h => h) (Or.inl ⟨by rfl, ?h22⟩) ?r22
    case h22 => intro wz; go_simp; try (with_reducible rfl)
    refine wpAny_take (i := 22) (v := ?v23) rfl (by kernel_rfl) (by kernel_rfl) (by kernel_rfl) (fun _ _ _ h => h) (Or.inl ⟨by rfl, ?h23⟩) ?r23
    case h23 => intro wz; go_simp; try (with_reducible rfl)
    refine wpAny_take (i := 23) (v := ?v24) rfl (by kernel_rfl) (by kernel_rfl) (by kernel_rfl) (fun _ _ _ h => h) (Or.inl ⟨by rfl, ?h24⟩) ?r24
    case h24 => intro wz; go_simp; try (with_reducible rfl)
    refine wpAny_take (i := 24) (v := ?v25) rfl (by kernel_rfl) (by kernel_rfl) (by kernel_rfl) (fun _ _ _ h => h) (Or.inl ⟨by rfl, ?h25⟩) ?r25
    case h25 => intro wz; go_simp; try (with_reducible rfl)
    refine wpAny_take (i := 25) (v := ?v26) rfl (by kernel_rfl) (by kernel_rfl) (by kernel_rfl) (fun _ _ _ h => h) (Or.inl ⟨by rfl, ?h26⟩) ?r26
    case h26 => intro wz; go_simp; try (with_reducible rfl)
    refine wpAny_take (i := 26) (v := ?v27) rfl (by kernel_rfl) (by kernel_rfl) (by kernel_rfl) (fun _ _ _ h => h) (Or.inl ⟨by rfl, ?h27⟩) ?r27
    case h27 => intro wz; go_simp; try (with_reducible rfl)
    refine wpAny_take (i := 27) (v := ?v28) rfl (by kernel_rfl) (by kernel_rfl) (by kernel_rfl) (fun _ _ _ h => h) (Or.inl ⟨by rfl, ?h28⟩) ?r28
    case h28 => intro wz; go_simp; try (with_reducible rfl)
    refine wpAny_take (i := 28) (v := ?v29) rfl (by kernel_rfl) (by kernel_rfl) (by kernel_rfl) (fun _ _ _ h => h) (Or.inl ⟨by rfl, ?h29⟩) ?r29
    case h29 => intro wz; go_simp; try (with_reducible rfl)
    refine wpAny_take (i := 29) (v := ?v30) rfl (by kernel_rfl) (by kernel_rfl) (by kernel_rfl) (fun _ _ _ h => h) (Or.inl ⟨by rfl, ?h30⟩) ?r30
    case h30 => intro wz; go_simp; try (with_reducible rfl)
    refine wpAny_ready (rs := [30]) (by kernel_rfl) (by simp) ?_
    refine AllReady.cons rfl (fun K hK => ?_) AllReady.nil
    go_simp
    refine hK _ _ ?_
    clear hK K
    refine wpAny_ready (rs := [31]) (by kernel_rfl) (by simp) ?_
    refine AllReady.cons rfl (fun K hK => ?_) AllReady.nil
    go_simp
    refine hK _ _ ?_
    clear hK K
    refine wpAny_done (by kernel_rfl) ?_ _
    go_wp2_with fail
    go_meet
    exact ⟨rfl, fin7 HV.out⟩
  case rest =>
  obtain ⟨rfl, A1, X1, G1⟩ := hcut
  have xc0 := (blk_cell X1 0 (x := .int .i64 (nth (bys s) 0)) rfl).1
  have xc1 := (blk_cell X1 1 (x := .int .i64 (nth (bys s) 1)) rfl).1
  have xc2 := (blk_cell X1 2 (x := .int .i64 (nth (bys s) 2)) rfl).1
  have xc3 := (blk_cell X1 3 (x := .int .i64 (nth (bys s) 3)) rfl).1
  have xc4 := (blk_cell X1 4 (x := .string (s.extract 5 (5 + d))) rfl).1
  have xc5 := (blk_cell X1 5 (x := .string (s.extract (5 + d + 2) (5 + d + 2 + N))) rfl).1
  have xc6 := (blk_cell X1 6 (x := .string (s.extract (5 + d + 2 + N) s.size)) rfl).1
  clear h6 hd1 k4 k1 k2 k3 k5 k6 k7 k8 k9 k10 i0 i1 i2 i3 wA wB hne hs' hNs HV E1 HNN
  go_upto_region 8 with fail
  have A1d : wc.drew.heap[w.heap.size]? = some (.cells zmsg 35 (0, 0)) := A1
  have X1d : wc.drew.heap[w.heap.size + 1]? = some (.cells #[.int .i64 (nth (bys s) 0), .int .i64 (nth (bys s) 1), .int .i64 (nth (bys s) 2), .int .i64 (nth (bys s) 3), .string (s.extract 5 (5 + d)), .string (s.extract (5 + d + 2) (5 + d + 2 + N)), .string (s.extract (5 + d + 2 + N) s.size)] 35 (0, 0)) := X1
  have hdd : w.heap.size + 1 < wc.drew.heap.size := (Array.getElem?_eq_some_iff.1 X1d).1
  have G1d : Below w.heap.size w wc.drew := G1.drew
  have HA1 : Hid (wc.drew.heap[w.heap.size]? = some (.cells zmsg 35 (0, 0)) ∧ wc.drew.heap[w.heap.size + 1]? = some (.cells #[.int .i64 (nth (bys s) 0), .int .i64 (nth (bys s) 1), .int .i64 (nth (bys s) 2), .int .i64 (nth (bys s) 3), .string (s.extract 5 (5 + d)), .string (s.extract (5 + d + 2) (5 + d + 2 + N)), .string (s.extract (5 + d + 2 + N) s.size)] 35 (0, 0)) ∧ w.heap.size + 1 < wc.drew.heap.size ∧ Below w.heap.size w wc.drew) := ⟨A1d, X1d, hdd, G1d⟩
  clear A1d X1d hdd G1d A1 X1 G1
  go_region_with (go_at_call 48; refine (specMessageOK_any (nth (bys s) 0) (nth (bys s) 1) (nth (bys s) 2) (nth (bys s) 3) (s.extract 5 (5 + d)) (s.extract (5 + d + 2) (5 + d + 2 + N)) (s.extract (5 + d + 2 + N) s.size) _).mono ?_; rintro e w6 ⟨rfl, b6⟩; have A6 := (b6.block w.heap.size (Nat.lt_of_succ_lt HA1.out.2.2.1)).trans HA1.out.1; have X6 := (b6.block (w.heap.size + 1) HA1.out.2.2.1).trans HA1.out.2.1; have G6 : Below w.heap.size w w6 := HA1.out.2.2.2.trans (b6.mono HA1.out.2.2.2.size); clear b6; obtain ⟨zc0, zf0⟩ := blk_cell A6 0 (x := .int .i64 0) rfl; obtain ⟨zc1, zf1⟩ := blk_cell A6 1 (x := .int .i64 0) rfl; obtain ⟨zc2, zf2⟩ := blk_cell A6 2 (x := .int .i64 0) rfl; obtain ⟨zc3, zf3⟩ := blk_cell A6 3 (x := .int .i64 0) rfl; obtain ⟨zc4, zf4⟩ := blk_cell A6 4 (x := .string ⟨#[]⟩) rfl; obtain ⟨zc5, zf5⟩ := blk_cell A6 5 (x := .string ⟨#[]⟩) rfl; obtain ⟨zc6, zf6⟩ := blk_cell A6 6 (x := .string ⟨#[]⟩) rfl; have yc0 := (blk_cell X6 0 (x := .int .i64 (nth (bys s) 0)) rfl).1; have yc1 := (blk_cell X6 1 (x := .int .i64 (nth (bys s) 1)) rfl).1; have yc2 := (blk_cell X6 2 (x := .int .i64 (nth (bys s) 2)) rfl).1; have yc3 := (blk_cell X6 3 (x := .int .i64 (nth (bys s) 3)) rfl).1; have yc4 := (blk_cell X6 4 (x := .string (s.extract 5 (5 + d))) rfl).1; have yc5 := (blk_cell X6 5 (x := .string (s.extract (5 + d + 2) (5 + d + 2 + N))) rfl).1; have yc6 := (blk_cell X6 6 (x := .string (s.extract (5 + d + 2 + N) s.size)) rfl).1)
  all_goals
    have AF : (((((((w6.setCell ⟨w.heap.size, 0, none⟩ (.int .i64 (nth (bys s) 0))).setCell ⟨w.heap.size, 1, none⟩ (.int .i64 (nth (bys s) 1))).setCell ⟨w.heap.size, 2, none⟩ (.int .i64 (nth (bys s) 2))).setCell ⟨w.heap.size, 3, none⟩ (.int .i64 (nth (bys s) 3))).setCell ⟨w.heap.size, 4, none⟩ (.string (s.extract 5 (5 + d)))).setCell ⟨w.heap.size, 5, none⟩ (.string (s.extract (5 + d + 2) (5 + d + 2 + N)))).setCell ⟨w.heap.size, 6, none⟩ (.string (s.extract (5 + d + 2 + N) s.size))).heap[w.heap.size]? = some (.cells #[.int .i64 (nth (bys s) 0), .int .i64 (nth (bys s) 1), .int .i64 (nth (bys s) 2), .int .i64 (nth (bys s) 3), .string (s.extract 5 (5 + d)), .string (s.extract (5 + d + 2) (5 + d + 2 + N)), .string (s.extract (5 + d + 2 + N) s.size)] 35 (0, 0)) := (blk_set (blk_set (blk_set (blk_set (blk_set (blk_set (blk_set A6 0 (.int .i64 (nth (bys s) 0))) 1 (.int .i64 (nth (bys s) 1))) 2 (.int .i64 (nth (bys s) 2))) 3 (.int .i64 (nth (bys s) 3))) 4 (.string (s.extract 5 (5 + d)))) 5 (.string (s.extract (5 + d + 2) (5 + d + 2 + N)))) 6 (.string (s.extract (5 + d + 2 + N) s.size)))
    have GF : Below w.heap.size w (((((((w6.setCell ⟨w.heap.size, 0, none⟩ (.int .i64 (nth (bys s) 0))).setCell ⟨w.heap.size, 1, none⟩ (.int .i64 (nth (bys s) 1))).setCell ⟨w.heap.size, 2, none⟩ (.int .i64 (nth (bys s) 2))).setCell ⟨w.heap.size, 3, none⟩ (.int .i64 (nth (bys s) 3))).setCell ⟨w.heap.size, 4, none⟩ (.string (s.extract 5 (5 + d)))).setCell ⟨w.heap.size, 5, none⟩ (.string (s.extract (5 + d + 2) (5 + d + 2 + N)))).setCell ⟨w.heap.size, 6, none⟩ (.string (s.extract (5 + d + 2 + N) s.size))) := (Below.setCell (Below.setCell (Below.setCell (Below.setCell (Below.setCell (Below.setCell (Below.setCell G6 (p := ⟨w.heap.size, 0, none⟩) (Nat.le_refl _) (.int .i64 (nth (bys s) 0))) (p := ⟨w.heap.size, 1, none⟩) (Nat.le_refl _) (.int .i64 (nth (bys s) 1))) (p := ⟨w.heap.size, 2, none⟩) (Nat.le_refl _) (.int .i64 (nth (bys s) 2))) (p := ⟨w.heap.size, 3, none⟩) (Nat.le_refl _) (.int .i64 (nth (bys s) 3))) (p := ⟨w.heap.size, 4, none⟩) (Nat.le_refl _) (.string (s.extract 5 (5 + d)))) (p := ⟨w.heap.size, 5, none⟩) (Nat.le_refl _) (.string (s.extract (5 + d + 2) (5 + d + 2 + N)))) (p := ⟨w.heap.size, 6, none⟩) (Nat.le_refl _) (.string (s.extract (5 + d + 2 + N) s.size)))
    go_wp2_with fail
    generalize (((((((w6.setCell ⟨w.heap.size, 0, none⟩ (.int .i64 (nth (bys s) 0))).setCell ⟨w.heap.size, 1, none⟩ (.int .i64 (nth (bys s) 1))).setCell ⟨w.heap.size, 2, none⟩ (.int .i64 (nth (bys s) 2))).setCell ⟨w.heap.size, 3, none⟩ (.int .i64 (nth (bys s) 3))).setCell ⟨w.heap.size, 4, none⟩ (.string (s.extract 5 (5 + d)))).setCell ⟨w.heap.size, 5, none⟩ (.string (s.extract (5 + d + 2) (5 + d + 2 + N)))).setCell ⟨w.heap.size, 6, none⟩ (.string (s.extract (5 + d + 2 + N) s.size))) = wf at AF GF ⊢
    have d0 := (blk_cell AF 0 (x := .int .i64 (nth (bys s) 0)) rfl).1
    have d1 := (blk_cell AF 1 (x := .int .i64 (nth (bys s) 1)) rfl).1
    have d2 := (blk_cell AF 2 (x := .int .i64 (nth (bys s) 2)) rfl).1
    have d3 := (blk_cell AF 3 (x := .int .i64 (nth (bys s) 3)) rfl).1
    have d4 := (blk_cell AF 4 (x := .string (s.extract 5 (5 + d))) rfl).1
    have d5 := (blk_cell AF 5 (x := .string (s.extract (5 + d + 2) (5 + d + 2 + N))) rfl).1
    have d6 := (blk_cell AF 6 (x := .string (s.extract (5 + d + 2 + N) s.size)) rfl).1
    refine bodyPost_ret (v := .tuple #[.agg #[.int .i64 (nth (bys s) 0), .int .i64 (nth (bys s) 1), .int .i64 (nth (bys s) 2), .int .i64 (nth (bys s) 3), .string (s.extract 5 (5 + d)), .string (s.extract (5 + d + 2) (5 + d + 2 + N)), .string (s.extract (5 + d + 2 + N) s.size)], .bool (msgB (nth (bys s) 0) (nth (bys s) 1) (nth (bys s) 2) (nth (bys s) 3) (s.extract 5 (5 + d)) (s.extract (5 + d + 2) (5 + d + 2 + N)) (s.extract (5 + d + 2 + N) s.size))]) (by simp [results, Try.results55, go_sem, d0, d1, d2, d3, d4, d5, d6]) rfl ⟨rfl, GF⟩

theorem l02ReadMessage_no (s : ByteArray) (w : World) (hs : s.size ≤ 65536) (hno : ∀ h : 4 < s.size, s.size < 7 ∨ s.size < 7 + (s[4]'h).toNat ∨ (7 + (s[4]'h).toNat ≤ s.size ∧ (s.size : Int) ≠ 5 + ((s[4]'h).toNat : Int) + 2 + beN (bys (s.extract (5 + (s[4]'h).toNat) (5 + (s[4]'h).toNat + 2))) + 8)) :
    Calls Try.prog 55 #[.string s] w fun e w' => e = .returned (.tuple #[.agg zmsg, .bool false]) ∧ Below w.heap.size w w' := by
  by_cases h7 : s.size < 7
  · have h6 : (s.size : Int) < 7 := by omega
    clear hno
    go_enter Try.func55, Try.ntmps55
    go_wp2_with fail
    refine bodyPost_ret (v := .tuple #[.agg zmsg, .bool false]) (by simp [zmsg, results, Try.results55, go_sem]) rfl ⟨rfl, (Below.refl _ _).alloc (Nat.le_refl _) _⟩
  have h4 : 4 < s.size := by omega
  have h6 : (7 : Int) ≤ (s.size : Int) := by omega
  have k4 : (4 : Int) < (s.size : Int) := by omega
  have hno' := hno h4
  have hd8 := (s[4]'h4).toNat_lt
  obtain ⟨d, hd⟩ : ∃ d, (s[4]'h4).toNat = d := ⟨_, rfl⟩
  rw [hd] at hno' hd8
  clear hno
  by_cases hl : s.size < 7 + d
  · have hl' : (s.size : Int) < (7 : Int) + (d : Int) := by omega
    clear hno'
    go_enter Try.func55, Try.ntmps55
    go_wp2_with fail
    refine bodyPost_ret (v := .tuple #[.agg zmsg, .bool false]) (by simp [zmsg, results, Try.results55, go_sem]) rfl ⟨rfl, (Below.refl _ _).alloc (Nat.le_refl _) _⟩
  have hd1 : (7 : Int) + (d : Int) ≤ (s.size : Int) := by omega
  have hne : (s.size : Int) ≠ 5 + (d : Int) + 2 + beN (bys (s.extract (5 + d) (5 + d + 2))) + 8 := by
    rcases hno' with h | h | ⟨_, h⟩
    · omega
    · omega
    · exact h
  have hr := beN_range (bys (s.extract (5 + d) (5 + d + 2))) (bys_range _)
  have hlen : (bys (s.extract (5 + d) (5 + d + 2))).length = 2 := by rw [bys_length, ext_size]; omega
  rw [hlen] at hr
  have e1 := ext_small s (5 + d) (5 + d + 2) (by omega)
  have E1 : Hid (∀ _ : Unit, (s.extract (5 + d) (5 + d + 2)).size ≤ 4) := fun _ => e1
  obtain ⟨m, hm⟩ : ∃ m, beN (bys (s.extract (5 + d) (5 + d + 2))) = m := ⟨_, rfl⟩
  rw [hm] at hne hr
  have HM : Hid (beN (bys (s.extract (5 + d) (5 + d + 2))) = m) := hm
  have hm0 : 0 ≤ m := hr.1
  have hm1 : m < 65536 := hr.2
  have hnb : ((s.size : Int) != (5 : Int) + (d : Int) + 2 + m + 8) = true := by rw [bne_iff_ne]; exact hne
  have hs' : (s.size : Int) ≤ 65536 := by omega
  clear hno' hl e1 hr hlen hm hne
  go_enter Try.func55, Try.ntmps55
  go_wp2_with fail
  refine (l02Of_any (s.extract (5 + d) (5 + d + 2)) _ (E1.out ())).mono ?_
  rintro e w' ⟨rfl, rfl⟩
  rw [HM.out]
  go_wp2_with fail
  refine bodyPost_ret (v := .tuple #[.agg zmsg, .bool false]) (by simp [zmsg, results, Try.results55, go_sem]) rfl ⟨rfl, (Below.refl _ _).alloc (Nat.le_refl _) _⟩
end Go.Proofs.Ytdeologdmdimoaa.Om

/- Messages are read: both ReadMessage functions answer alike. -/
namespace Go.Proofs.Ytdeologdmdimoaa.Om
open Go.RowKit Go.Proofs.Ytdeologdmdimoaa.Sl Go.Proofs.Ytdeologdmdimoaa.By Go.Proofs.Ytdeologdmdimoaa.Ap Go.Proofs.Ytdeologdmdimoaa.Rq Go.Proofs.Ytdeologdmdimoaa.Rr Go.Proofs.Ytdeologdmdimoaa.Of Go.Proofs.Ytdeologdmdimoaa.Ms

/-- What both answer. -/
def readMsg (xs : List Int) : Value := rjV zmsg #[.int .i64 (beN (tkB 1 xs)), .int .i64 (beN (tkB 1 (tkR 1 xs))), .int .i64 (beN (tkB 1 (tkR 1 (tkR 1 xs)))), .int .i64 (beN (tkB 1 (tkR 1 (tkR 1 (tkR 1 xs))))), .string (mgDg xs), .string (mgBd xs), .string (mgMc xs)] (decide (65536 < xs.length)) (!mgSh xs false && ((mgRest xs).isEmpty && msgB (beN (tkB 1 xs)) (beN (tkB 1 (tkR 1 xs))) (beN (tkB 1 (tkR 1 (tkR 1 xs)))) (beN (tkB 1 (tkR 1 (tkR 1 (tkR 1 xs))))) (mgDg xs) (mgBd xs) (mgMc xs)))
theorem readMsg_form (xs : List Int) : ∃ (kd vw sq fr : Int) (dg bd mc : ByteArray) (code : Int), readMsg xs = .tuple #[.agg #[.int .i64 kd, .int .i64 vw, .int .i64 sq, .int .i64 fr, .string dg, .string bd, .string mc], .int .i64 code] := by
  unfold readMsg rjV
  split
  · exact ⟨0, 0, 0, 0, ⟨#[]⟩, ⟨#[]⟩, ⟨#[]⟩, 2, rfl⟩
  · split
    · exact ⟨_, _, _, _, _, _, _, 0, rfl⟩
    · exact ⟨0, 0, 0, 0, ⟨#[]⟩, ⟨#[]⟩, ⟨#[]⟩, 3, rfl⟩
theorem ext_list (xs : List Int) (hr : ∀ x ∈ xs, 0 ≤ x ∧ x ≤ 255) (a b : Nat) : (strOfNums xs).extract a b = strOfNums ((xs.take b).drop a) := by
  rw [← str_bys ((strOfNums xs).extract a b), bys_ext, bys_str xs hr]
theorem eq_msg_yes (xs : List Int) (hr : ∀ x ∈ xs, 0 ≤ x ∧ x ≤ 255) (hq : xs.length = 15 + mD xs + mN xs) :
    beN (tkB 1 xs) = nth (bys (strOfNums xs)) 0 ∧ beN (tkB 1 (tkR 1 xs)) = nth (bys (strOfNums xs)) 1 ∧ beN (tkB 1 (tkR 1 (tkR 1 xs))) = nth (bys (strOfNums xs)) 2 ∧ beN (tkB 1 (tkR 1 (tkR 1 (tkR 1 xs)))) = nth (bys (strOfNums xs)) 3 ∧
      mgDg xs = (strOfNums xs).extract 5 (5 + mD xs) ∧ mgBd xs = (strOfNums xs).extract (5 + mD xs + 2) (5 + mD xs + 2 + mN xs) ∧ mgMc xs = (strOfNums xs).extract (5 + mD xs + 2 + mN xs) (strOfNums xs).size ∧ mgRest xs = [] ∧ mgSh xs false = false := by
  obtain ⟨a1, a2, a3, a4, a5, a6, a7, a8, a9⟩ := msg_open xs (by omega)
  rw [bys_str xs hr]
  refine ⟨a1, a2, a3, a4, ?_, ?_, ?_, ?_, a9⟩
  · rw [a5, ext_list xs hr, List.take_drop]
  · rw [a6, ext_list xs hr, List.take_drop, show 5 + mD xs + 2 = 7 + mD xs by omega]
  · rw [a7, ext_list xs hr, strOfNums_size, List.take_drop, show 7 + mD xs + mN xs + 8 = xs.length by omega, show 5 + mD xs + 2 + mN xs = 7 + mD xs + mN xs by omega]
  · rw [a8]; exact List.drop_eq_nil_of_le (by omega)
theorem eq_msg_no (xs : List Int) (hno : xs.length ≠ 15 + mD xs + mN xs) (b : Bool) : (!mgSh xs false && ((mgRest xs).isEmpty && b)) = false := by
  cases h : mgSh xs false
  · have hl := msg_inv xs h
    obtain ⟨_, _, _, _, _, _, _, a8, _⟩ := msg_open xs hl
    have : (mgRest xs).isEmpty = false := by
      rw [a8]
      cases he : xs.drop (15 + mD xs + mN xs) with
      | nil =>
        have := congrArg List.length he
        rw [List.length_drop] at this
        simp at this
        omega
      | cons y ys => rfl
    rw [this]
    rfl
  · rfl
theorem mD_lt (xs : List Int) (hr : ∀ x ∈ xs, 0 ≤ x ∧ x ≤ 255) : mD xs < 256 := by unfold mD; have := range_at hr 4; omega
theorem mN_eq (xs : List Int) (hr : ∀ x ∈ xs, 0 ≤ x ∧ x ≤ 255) : beN (bys ((strOfNums xs).extract (5 + mD xs) (5 + mD xs + 2))) = (mN xs : Int) := by
  rw [bys_ext, bys_str xs hr]
  unfold mN
  rw [List.take_drop]
  have := beN_range ((xs.take (5 + mD xs + 2)).drop (5 + mD xs)) (fun x hx => hr x (List.mem_of_mem_take (List.mem_of_mem_drop hx)))
  omega

set_option maxHeartbeats 400000 in
theorem implReadMessage_any (v : Value) (xs : List Int) (w : World) (h : RowB w v xs) (hl : xs.length ≤ 1048576) :
    Calls Try.prog 14 #[v] w fun e w' => e = .returned (readMsg xs) ∧ Below w.heap.size w w' := by
  obtain ⟨kd, vw, sq, fr, dg, bd, mc, code, hf⟩ := readMsg_form xs
  have HF : Hid (readMsg xs = .tuple #[.agg #[.int .i64 kd, .int .i64 vw, .int .i64 sq, .int .i64 fr, .string dg, .string bd, .string mc], .int .i64 code]) := hf
  have h' := h
  obtain ⟨a, cap, rfl, _, _⟩ := h
  have HR : Hid (RowB w (.slice a xs.length cap) xs) := h'
  clear h' hf
  go_enter Try.func14, Try.ntmps14
  go_wp2_with fail
  refine (readJustMsg_gen _ xs _ (HR.out.below ((Below.refl _ _).alloc (Nat.le_refl _) _)) hl (beN (tkB 1 xs)) (beN (tkB 1 (tkR 1 xs))) (beN (tkB 1 (tkR 1 (tkR 1 xs)))) (beN (tkB 1 (tkR 1 (tkR 1 (tkR 1 xs))))) (mgDg xs) (mgBd xs) (mgMc xs) (mgRest xs) (mgSh xs false) (fun W p B h1 h2 h3 h4 => takeMessage_any p B xs false W h1 h2 h3 h4)).mono ?_
  rintro e w1 ⟨rfl, b1⟩
  rw [show rjV zmsg #[.int .i64 (beN (tkB 1 xs)), .int .i64 (beN (tkB 1 (tkR 1 xs))), .int .i64 (beN (tkB 1 (tkR 1 (tkR 1 xs)))), .int .i64 (beN (tkB 1 (tkR 1 (tkR 1 (tkR 1 xs))))), .string (mgDg xs), .string (mgBd xs), .string (mgMc xs)] (decide (65536 < xs.length)) (!mgSh xs false && ((mgRest xs).isEmpty && msgB (beN (tkB 1 xs)) (beN (tkB 1 (tkR 1 xs))) (beN (tkB 1 (tkR 1 (tkR 1 xs)))) (beN (tkB 1 (tkR 1 (tkR 1 (tkR 1 xs))))) (mgDg xs) (mgBd xs) (mgMc xs))) = readMsg xs from rfl, HF.out]
  have A1 : w1.heap[w.heap.size]? = some (.cells zmsg 35 (0, 0)) := (b1.block w.heap.size (by simp)).trans (blk_new w zmsg 35)
  have G1 := box_old (box_first b1)
  clear b1 HR
  obtain ⟨zc0, zf0⟩ := blk_cell A1 0 (x := .int .i64 0) rfl
  obtain ⟨zc1, zf1⟩ := blk_cell A1 1 (x := .int .i64 0) rfl
  obtain ⟨zc2, zf2⟩ := blk_cell A1 2 (x := .int .i64 0) rfl
  obtain ⟨zc3, zf3⟩ := blk_cell A1 3 (x := .int .i64 0) rfl
  obtain ⟨zc4, zf4⟩ := blk_cell A1 4 (x := .string ⟨#[]⟩) rfl
  obtain ⟨zc5, zf5⟩ := blk_cell A1 5 (x := .string ⟨#[]⟩) rfl
  obtain ⟨zc6, zf6⟩ := blk_cell A1 6 (x := .string ⟨#[]⟩) rfl
  have AF : (((((((w1.setCell ⟨w.heap.size, 0, none⟩ (.int .i64 kd)).setCell ⟨w.heap.size, 1, none⟩ (.int .i64 vw)).setCell ⟨w.heap.size, 2, none⟩ (.int .i64 sq)).setCell ⟨w.heap.size, 3, none⟩ (.int .i64 fr)).setCell ⟨w.heap.size, 4, none⟩ (.string dg)).setCell ⟨w.heap.size, 5, none⟩ (.string bd)).setCell ⟨w.heap.size, 6, none⟩ (.string mc)).heap[w.heap.size]? = some (.cells #[.int .i64 kd, .int .i64 vw, .int .i64 sq, .int .i64 fr, .string dg, .string bd, .string mc] 35 (0, 0)) := (blk_set (blk_set (blk_set (blk_set (blk_set (blk_set (blk_set A1 0 (.int .i64 kd)) 1 (.int .i64 vw)) 2 (.int .i64 sq)) 3 (.int .i64 fr)) 4 (.string dg)) 5 (.string bd)) 6 (.string mc))
  have GF : Below w.heap.size w (((((((w1.setCell ⟨w.heap.size, 0, none⟩ (.int .i64 kd)).setCell ⟨w.heap.size, 1, none⟩ (.int .i64 vw)).setCell ⟨w.heap.size, 2, none⟩ (.int .i64 sq)).setCell ⟨w.heap.size, 3, none⟩ (.int .i64 fr)).setCell ⟨w.heap.size, 4, none⟩ (.string dg)).setCell ⟨w.heap.size, 5, none⟩ (.string bd)).setCell ⟨w.heap.size, 6, none⟩ (.string mc)) := (Below.setCell (Below.setCell (Below.setCell (Below.setCell (Below.setCell (Below.setCell (Below.setCell G1 (p := ⟨w.heap.size, 0, none⟩) (Nat.le_refl _) (.int .i64 kd)) (p := ⟨w.heap.size, 1, none⟩) (Nat.le_refl _) (.int .i64 vw)) (p := ⟨w.heap.size, 2, none⟩) (Nat.le_refl _) (.int .i64 sq)) (p := ⟨w.heap.size, 3, none⟩) (Nat.le_refl _) (.int .i64 fr)) (p := ⟨w.heap.size, 4, none⟩) (Nat.le_refl _) (.string dg)) (p := ⟨w.heap.size, 5, none⟩) (Nat.le_refl _) (.string bd)) (p := ⟨w.heap.size, 6, none⟩) (Nat.le_refl _) (.string mc))
  go_wp2_with fail
  generalize (((((((w1.setCell ⟨w.heap.size, 0, none⟩ (.int .i64 kd)).setCell ⟨w.heap.size, 1, none⟩ (.int .i64 vw)).setCell ⟨w.heap.size, 2, none⟩ (.int .i64 sq)).setCell ⟨w.heap.size, 3, none⟩ (.int .i64 fr)).setCell ⟨w.heap.size, 4, none⟩ (.string dg)).setCell ⟨w.heap.size, 5, none⟩ (.string bd)).setCell ⟨w.heap.size, 6, none⟩ (.string mc)) = wf at AF GF ⊢
  have d0 := (blk_cell AF 0 (x := .int .i64 kd) rfl).1
  have d1 := (blk_cell AF 1 (x := .int .i64 vw) rfl).1
  have d2 := (blk_cell AF 2 (x := .int .i64 sq) rfl).1
  have d3 := (blk_cell AF 3 (x := .int .i64 fr) rfl).1
  have d4 := (blk_cell AF 4 (x := .string dg) rfl).1
  have d5 := (blk_cell AF 5 (x := .string bd) rfl).1
  have d6 := (blk_cell AF 6 (x := .string mc) rfl).1
  refine bodyPost_ret (v := .tuple #[.agg #[.int .i64 kd, .int .i64 vw, .int .i64 sq, .int .i64 fr, .string dg, .string bd, .string mc], .int .i64 code]) (by simp [results, Try.results14, go_sem, d0, d1, d2, d3, d4, d5, d6]) rfl ⟨ret_val HF.out.symm, GF⟩

set_option maxRecDepth 100000 in
set_option maxHeartbeats 1600000 in
theorem specReadMessage_any (v : Value) (xs : List Int) (w : World) (h : RowB w v xs) (hl : xs.length ≤ 1048576) :
    Calls Try.prog 16 #[v] w fun e w' => e = .returned (readMsg xs) ∧ Below w.heap.size w w' := by
  have hu := RowU.of h
  have hr : ∀ x ∈ xs, 0 ≤ x ∧ x ≤ 255 := by obtain ⟨_, _, _, _, h⟩ := h; exact h
  obtain ⟨a, cap, rfl, _, _⟩ := h
  by_cases hb : 65536 < xs.length
  · have hb' : (65536 : Int) < (xs.length : Int) := by omega
    have HE : Hid (readMsg xs = .tuple #[.agg zmsg, .int .i64 2]) := by show _ = _; unfold readMsg; rw [decide_eq_true hb]; rfl
    clear hu hr
    go_enter Try.func16, Try.ntmps16
    go_wp2_with fail
    refine bodyPost_ret (v := .tuple #[.agg zmsg, .int .i64 2]) (by simp [zmsg, results, Try.results16, go_sem]) rfl ⟨ret_val HE.out.symm, (Below.refl _ _).alloc (Nat.le_refl _) _⟩
  have hb' : (xs.length : Int) ≤ 65536 := by omega
  have hcv := run_convert_row (P := Try.prog) (w.alloc (.cells #[.int .i64 0, .int .i64 0, .int .i64 0, .int .i64 0, .string ⟨#[]⟩, .string ⟨#[]⟩, .string ⟨#[]⟩] 35)) w.heap.size 33 5 9 Try.underlying33 Try.underlying5 Try.underlying9 _ xs (hu.kept (fun k hk => Below.heap_alloc w _ k hk))
  have hsz := strOfNums_size xs
  have hD := mD_lt xs hr
  have hNe := mN_eq xs hr
  have h4e : ∀ h : 4 < (strOfNums xs).size, ((strOfNums xs)[4]'h).toNat = mD xs := by
    intro h
    have := str_at xs hr 4 h
    unfold mD
    omega
  by_cases hyes : xs.length = 15 + mD xs + mN xs
  · obtain ⟨e1, e2, e3, e4, e5, e6, e7, e8, e9⟩ := eq_msg_yes xs hr hyes
    have HY := fun w => l02ReadMessage_yes (strOfNums xs) w (mD xs) (mN xs) (by omega) (by omega) (h4e (by omega)) hNe (by omega)
    have HE : readMsg xs = if msgB (nth (bys (strOfNums xs)) 0) (nth (bys (strOfNums xs)) 1) (nth (bys (strOfNums xs)) 2) (nth (bys (strOfNums xs)) 3) ((strOfNums xs).extract 5 (5 + mD xs)) ((strOfNums xs).extract (5 + mD xs + 2) (5 + mD xs + 2 + mN xs)) ((strOfNums xs).extract (5 + mD xs + 2 + mN xs) (strOfNums xs).size) then .tuple #[.agg #[.int .i64 (nth (bys (strOfNums xs)) 0), .int .i64 (nth (bys (strOfNums xs)) 1), .int .i64 (nth (bys (strOfNums xs)) 2), .int .i64 (nth (bys (strOfNums xs)) 3), .string ((strOfNums xs).extract 5 (5 + mD xs)), .string ((strOfNums xs).extract (5 + mD xs + 2) (5 + mD xs + 2 + mN xs)), .string ((strOfNums xs).extract (5 + mD xs + 2 + mN xs) (strOfNums xs).size)], .int .i64 0] else .tuple #[.agg zmsg, .int .i64 3] := by
      unfold readMsg; rw [e1, e2, e3, e4, e5, e6, e7, e8, e9, decide_eq_false hb]; rfl
    clear hu hr e1 e2 e3 e4 e5 e6 e7 e8 e9 hyes hsz hb h4e hNe hD
    generalize strOfNums xs = s at hcv HE HY
    generalize mD xs = d at HE HY
    generalize mN xs = N at HE HY
    generalize nth (bys s) 0 = kd at HE HY
    generalize nth (bys s) 1 = vw at HE HY
    generalize nth (bys s) 2 = sq at HE HY
    generalize nth (bys s) 3 = fr at HE HY
    generalize s.extract 5 (5 + d) = dg at HE HY
    generalize s.extract (5 + d + 2 + N) s.size = mc at HE HY
    generalize s.extract (5 + d + 2) (5 + d + 2 + N) = bd at HE HY
    have HYY : Hid (∀ w : World, Calls Try.prog 55 #[.string s] w fun e w' => e = .returned (.tuple #[.agg #[.int .i64 kd, .int .i64 vw, .int .i64 sq, .int .i64 fr, .string dg, .string bd, .string mc], .bool (msgB kd vw sq fr dg bd mc)]) ∧ Below w.heap.size w w') := HY
    have HEE : Hid (readMsg xs = if msgB kd vw sq fr dg bd mc then .tuple #[.agg #[.int .i64 kd, .int .i64 vw, .int .i64 sq, .int .i64 fr, .string dg, .string bd, .string mc], .int .i64 0] else .tuple #[.agg zmsg, .int .i64 3]) := HE
    clear HY HE
    go_enter Try.func16, Try.ntmps16
    go_wp2_with fail
    refine (HYY.out _).mono ?_
    rintro e w1 ⟨rfl, b1⟩
    have A1 : w1.heap[w.heap.size]? = some (.cells zmsg 35 (0, 0)) := (b1.block w.heap.size (by simp)).trans (blk_new w zmsg 35)
    have G1 := box_old (box_first b1)
    have A5 : (w1.alloc (.cells #[.int .i64 kd, .int .i64 vw, .int .i64 sq, .int .i64 fr, .string dg, .string bd, .string mc] 35)).heap[w.heap.size]? = some (.cells zmsg 35 (0, 0)) := (Below.heap_alloc _ _ _ (Array.getElem?_eq_some_iff.1 A1).1).trans A1
    have X5 : (w1.alloc (.cells #[.int .i64 kd, .int .i64 vw, .int .i64 sq, .int .i64 fr, .string dg, .string bd, .string mc] 35)).heap[w1.heap.size]? = some (.cells #[.int .i64 kd, .int .i64 vw, .int .i64 sq, .int .i64 fr, .string dg, .string bd, .string mc] 35 (0, 0)) := blk_new _ _ _
    have G5 := G1.alloc G1.size (.cells #[.int .i64 kd, .int .i64 vw, .int .i64 sq, .int .i64 fr, .string dg, .string bd, .string mc] 35)
    clear b1 HYY hcv A1 G1
    go_upto_region 4 with fail
    generalize w1.alloc (.cells #[.int .i64 kd, .int .i64 vw, .int .i64 sq, .int .i64 fr, .string dg, .string bd, .string mc] 35) = w5 at A5 X5 G5 ⊢
    generalize w1.heap.size = x5 at X5 ⊢
    cases hqq : msgB kd vw sq fr dg bd mc
    case false =>
      have HN : Hid (readMsg xs = .tuple #[.agg zmsg, .int .i64 3]) := by show _ = _; rw [HEE.out, hqq]; rfl
      clear HEE X5
      obtain ⟨zc0, zf0⟩ := blk_cell A5 0 (x := .int .i64 0) rfl
      obtain ⟨zc1, zf1⟩ := blk_cell A5 1 (x := .int .i64 0) rfl
      obtain ⟨zc2, zf2⟩ := blk_cell A5 2 (x := .int .i64 0) rfl
      obtain ⟨zc3, zf3⟩ := blk_cell A5 3 (x := .int .i64 0) rfl
      obtain ⟨zc4, zf4⟩ := blk_cell A5 4 (x := .string ⟨#[]⟩) rfl
      obtain ⟨zc5, zf5⟩ := blk_cell A5 5 (x := .string ⟨#[]⟩) rfl
      obtain ⟨zc6, zf6⟩ := blk_cell A5 6 (x := .string ⟨#[]⟩) rfl
      have AF : (((((((w5.setCell ⟨w.heap.size, 0, none⟩ (.int .i64 0)).setCell ⟨w.heap.size, 1, none⟩ (.int .i64 0)).setCell ⟨w.heap.size, 2, none⟩ (.int .i64 0)).setCell ⟨w.heap.size, 3, none⟩ (.int .i64 0)).setCell ⟨w.heap.size, 4, none⟩ (.string ⟨#[]⟩)).setCell ⟨w.heap.size, 5, none⟩ (.string ⟨#[]⟩)).setCell ⟨w.heap.size, 6, none⟩ (.string ⟨#[]⟩)).heap[w.heap.size]? = some (.cells #[.int .i64 0, .int .i64 0, .int .i64 0, .int .i64 0, .string ⟨#[]⟩, .string ⟨#[]⟩, .string ⟨#[]⟩] 35 (0, 0)) := (blk_set (blk_set (blk_set (blk_set (blk_set (blk_set (blk_set A5 0 (.int .i64 0)) 1 (.int .i64 0)) 2 (.int .i64 0)) 3 (.int .i64 0)) 4 (.string ⟨#[]⟩)) 5 (.string ⟨#[]⟩)) 6 (.string ⟨#[]⟩))
      have GF : Below w.heap.size w (((((((w5.setCell ⟨w.heap.size, 0, none⟩ (.int .i64 0)).setCell ⟨w.heap.size, 1, none⟩ (.int .i64 0)).setCell ⟨w.heap.size, 2, none⟩ (.int .i64 0)).setCell ⟨w.heap.size, 3, none⟩ (.int .i64 0)).setCell ⟨w.heap.size, 4, none⟩ (.string ⟨#[]⟩)).setCell ⟨w.heap.size, 5, none⟩ (.string ⟨#[]⟩)).setCell ⟨w.heap.size, 6, none⟩ (.string ⟨#[]⟩)) := (Below.setCell (Below.setCell (Below.setCell (Below.setCell (Below.setCell (Below.setCell (Below.setCell G5 (p := ⟨w.heap.size, 0, none⟩) (Nat.le_refl _) (.int .i64 0)) (p := ⟨w.heap.size, 1, none⟩) (Nat.le_refl _) (.int .i64 0)) (p := ⟨w.heap.size, 2, none⟩) (Nat.le_refl _) (.int .i64 0)) (p := ⟨w.heap.size, 3, none⟩) (Nat.le_refl _) (.int .i64 0)) (p := ⟨w.heap.size, 4, none⟩) (Nat.le_refl _) (.string ⟨#[]⟩)) (p := ⟨w.heap.size, 5, none⟩) (Nat.le_refl _) (.string ⟨#[]⟩)) (p := ⟨w.heap.size, 6, none⟩) (Nat.le_refl _) (.string ⟨#[]⟩))
      go_wp2_with fail
      generalize (((((((w5.setCell ⟨w.heap.size, 0, none⟩ (.int .i64 0)).setCell ⟨w.heap.size, 1, none⟩ (.int .i64 0)).setCell ⟨w.heap.size, 2, none⟩ (.int .i64 0)).setCell ⟨w.heap.size, 3, none⟩ (.int .i64 0)).setCell ⟨w.heap.size, 4, none⟩ (.string ⟨#[]⟩)).setCell ⟨w.heap.size, 5, none⟩ (.string ⟨#[]⟩)).setCell ⟨w.heap.size, 6, none⟩ (.string ⟨#[]⟩)) = wf at AF GF ⊢
      have d0 := (blk_cell AF 0 (x := .int .i64 0) rfl).1
      have d1 := (blk_cell AF 1 (x := .int .i64 0) rfl).1
      have d2 := (blk_cell AF 2 (x := .int .i64 0) rfl).1
      have d3 := (blk_cell AF 3 (x := .int .i64 0) rfl).1
      have d4 := (blk_cell AF 4 (x := .string ⟨#[]⟩) rfl).1
      have d5 := (blk_cell AF 5 (x := .string ⟨#[]⟩) rfl).1
      have d6 := (blk_cell AF 6 (x := .string ⟨#[]⟩) rfl).1
      refine bodyPost_ret (v := .tuple #[.agg #[.int .i64 0, .int .i64 0, .int .i64 0, .int .i64 0, .string ⟨#[]⟩, .string ⟨#[]⟩, .string ⟨#[]⟩], .int .i64 3]) (by simp [results, Try.results16, go_sem, d0, d1, d2, d3, d4, d5, d6]) rfl ⟨ret_val HN.out.symm, GF⟩
    case true =>
      have HN : Hid (readMsg xs = .tuple #[.agg #[.int .i64 kd, .int .i64 vw, .int .i64 sq, .int .i64 fr, .string dg, .string bd, .string mc], .int .i64 0]) := by show _ = _; rw [HEE.out, hqq]; rfl
      clear HEE
      obtain ⟨zc0, zf0⟩ := blk_cell A5 0 (x := .int .i64 0) rfl
      obtain ⟨zc1, zf1⟩ := blk_cell A5 1 (x := .int .i64 0) rfl
      obtain ⟨zc2, zf2⟩ := blk_cell A5 2 (x := .int .i64 0) rfl
      obtain ⟨zc3, zf3⟩ := blk_cell A5 3 (x := .int .i64 0) rfl
      obtain ⟨zc4, zf4⟩ := blk_cell A5 4 (x := .string ⟨#[]⟩) rfl
      obtain ⟨zc5, zf5⟩ := blk_cell A5 5 (x := .string ⟨#[]⟩) rfl
      obtain ⟨zc6, zf6⟩ := blk_cell A5 6 (x := .string ⟨#[]⟩) rfl
      have xc0 := (blk_cell X5 0 (x := .int .i64 kd) rfl).1
      have xc1 := (blk_cell X5 1 (x := .int .i64 vw) rfl).1
      have xc2 := (blk_cell X5 2 (x := .int .i64 sq) rfl).1
      have xc3 := (blk_cell X5 3 (x := .int .i64 fr) rfl).1
      have xc4 := (blk_cell X5 4 (x := .string dg) rfl).1
      have xc5 := (blk_cell X5 5 (x := .string bd) rfl).1
      have xc6 := (blk_cell X5 6 (x := .string mc) rfl).1
      clear X5
      have AF : (((((((w5.setCell ⟨w.heap.size, 0, none⟩ (.int .i64 kd)).setCell ⟨w.heap.size, 1, none⟩ (.int .i64 vw)).setCell ⟨w.heap.size, 2, none⟩ (.int .i64 sq)).setCell ⟨w.heap.size, 3, none⟩ (.int .i64 fr)).setCell ⟨w.heap.size, 4, none⟩ (.string dg)).setCell ⟨w.heap.size, 5, none⟩ (.string bd)).setCell ⟨w.heap.size, 6, none⟩ (.string mc)).heap[w.heap.size]? = some (.cells #[.int .i64 kd, .int .i64 vw, .int .i64 sq, .int .i64 fr, .string dg, .string bd, .string mc] 35 (0, 0)) := (blk_set (blk_set (blk_set (blk_set (blk_set (blk_set (blk_set A5 0 (.int .i64 kd)) 1 (.int .i64 vw)) 2 (.int .i64 sq)) 3 (.int .i64 fr)) 4 (.string dg)) 5 (.string bd)) 6 (.string mc))
      have GF : Below w.heap.size w (((((((w5.setCell ⟨w.heap.size, 0, none⟩ (.int .i64 kd)).setCell ⟨w.heap.size, 1, none⟩ (.int .i64 vw)).setCell ⟨w.heap.size, 2, none⟩ (.int .i64 sq)).setCell ⟨w.heap.size, 3, none⟩ (.int .i64 fr)).setCell ⟨w.heap.size, 4, none⟩ (.string dg)).setCell ⟨w.heap.size, 5, none⟩ (.string bd)).setCell ⟨w.heap.size, 6, none⟩ (.string mc)) := (Below.setCell (Below.setCell (Below.setCell (Below.setCell (Below.setCell (Below.setCell (Below.setCell G5 (p := ⟨w.heap.size, 0, none⟩) (Nat.le_refl _) (.int .i64 kd)) (p := ⟨w.heap.size, 1, none⟩) (Nat.le_refl _) (.int .i64 vw)) (p := ⟨w.heap.size, 2, none⟩) (Nat.le_refl _) (.int .i64 sq)) (p := ⟨w.heap.size, 3, none⟩) (Nat.le_refl _) (.int .i64 fr)) (p := ⟨w.heap.size, 4, none⟩) (Nat.le_refl _) (.string dg)) (p := ⟨w.heap.size, 5, none⟩) (Nat.le_refl _) (.string bd)) (p := ⟨w.heap.size, 6, none⟩) (Nat.le_refl _) (.string mc))
      go_wp2_with fail
      generalize (((((((w5.setCell ⟨w.heap.size, 0, none⟩ (.int .i64 kd)).setCell ⟨w.heap.size, 1, none⟩ (.int .i64 vw)).setCell ⟨w.heap.size, 2, none⟩ (.int .i64 sq)).setCell ⟨w.heap.size, 3, none⟩ (.int .i64 fr)).setCell ⟨w.heap.size, 4, none⟩ (.string dg)).setCell ⟨w.heap.size, 5, none⟩ (.string bd)).setCell ⟨w.heap.size, 6, none⟩ (.string mc)) = wf at AF GF ⊢
      have d0 := (blk_cell AF 0 (x := .int .i64 kd) rfl).1
      have d1 := (blk_cell AF 1 (x := .int .i64 vw) rfl).1
      have d2 := (blk_cell AF 2 (x := .int .i64 sq) rfl).1
      have d3 := (blk_cell AF 3 (x := .int .i64 fr) rfl).1
      have d4 := (blk_cell AF 4 (x := .string dg) rfl).1
      have d5 := (blk_cell AF 5 (x := .string bd) rfl).1
      have d6 := (blk_cell AF 6 (x := .string mc) rfl).1
      refine bodyPost_ret (v := .tuple #[.agg #[.int .i64 kd, .int .i64 vw, .int .i64 sq, .int .i64 fr, .string dg, .string bd, .string mc], .int .i64 0]) (by simp [results, Try.results16, go_sem, d0, d1, d2, d3, d4, d5, d6]) rfl ⟨ret_val HN.out.symm, GF⟩
  · have hno : ∀ h : 4 < (strOfNums xs).size, (strOfNums xs).size < 7 ∨ (strOfNums xs).size < 7 + ((strOfNums xs)[4]'h).toNat ∨ (7 + ((strOfNums xs)[4]'h).toNat ≤ (strOfNums xs).size ∧ ((strOfNums xs).size : Int) ≠ 5 + (((strOfNums xs)[4]'h).toNat : Int) + 2 + beN (bys ((strOfNums xs).extract (5 + ((strOfNums xs)[4]'h).toNat) (5 + ((strOfNums xs)[4]'h).toNat + 2))) + 8) := by
      intro h
      rw [h4e h, hNe]
      omega
    have HN : Hid (readMsg xs = .tuple #[.agg zmsg, .int .i64 3]) := by show _ = _; unfold readMsg; rw [eq_msg_no xs hyes, decide_eq_false hb]; rfl
    have HY := fun w => l02ReadMessage_no (strOfNums xs) w (by omega) hno
    clear hu hr hyes hno hsz hb h4e hNe hD
    generalize strOfNums xs = s at hcv HY
    have HYY : Hid (∀ w : World, Calls Try.prog 55 #[.string s] w fun e w' => e = .returned (.tuple #[.agg zmsg, .bool false]) ∧ Below w.heap.size w w') := HY
    clear HY
    go_enter Try.func16, Try.ntmps16
    go_wp2_with fail
    refine (HYY.out _).mono ?_
    rintro e w1 ⟨rfl, b1⟩
    have A1 : w1.heap[w.heap.size]? = some (.cells zmsg 35 (0, 0)) := (b1.block w.heap.size (by simp)).trans (blk_new w zmsg 35)
    have G1 := box_old (box_first b1)
    have A5 : (w1.alloc (.cells #[.int .i64 0, .int .i64 0, .int .i64 0, .int .i64 0, .string ⟨#[]⟩, .string ⟨#[]⟩, .string ⟨#[]⟩] 35)).heap[w.heap.size]? = some (.cells zmsg 35 (0, 0)) := (Below.heap_alloc _ _ _ (Array.getElem?_eq_some_iff.1 A1).1).trans A1
    have G5 := G1.alloc G1.size (.cells #[.int .i64 0, .int .i64 0, .int .i64 0, .int .i64 0, .string ⟨#[]⟩, .string ⟨#[]⟩, .string ⟨#[]⟩] 35)
    clear b1 HYY hcv A1 G1
    unfold zmsg
    go_upto_region 4 with fail
    generalize w1.alloc (.cells #[.int .i64 0, .int .i64 0, .int .i64 0, .int .i64 0, .string ⟨#[]⟩, .string ⟨#[]⟩, .string ⟨#[]⟩] 35) = w5 at A5 G5 ⊢
    obtain ⟨zc0, zf0⟩ := blk_cell A5 0 (x := .int .i64 0) rfl
    obtain ⟨zc1, zf1⟩ := blk_cell A5 1 (x := .int .i64 0) rfl
    obtain ⟨zc2, zf2⟩ := blk_cell A5 2 (x := .int .i64 0) rfl
    obtain ⟨zc3, zf3⟩ := blk_cell A5 3 (x := .int .i64 0) rfl
    obtain ⟨zc4, zf4⟩ := blk_cell A5 4 (x := .string ⟨#[]⟩) rfl
    obtain ⟨zc5, zf5⟩ := blk_cell A5 5 (x := .string ⟨#[]⟩) rfl
    obtain ⟨zc6, zf6⟩ := blk_cell A5 6 (x := .string ⟨#[]⟩) rfl
    have AF : (((((((w5.setCell ⟨w.heap.size, 0, none⟩ (.int .i64 0)).setCell ⟨w.heap.size, 1, none⟩ (.int .i64 0)).setCell ⟨w.heap.size, 2, none⟩ (.int .i64 0)).setCell ⟨w.heap.size, 3, none⟩ (.int .i64 0)).setCell ⟨w.heap.size, 4, none⟩ (.string ⟨#[]⟩)).setCell ⟨w.heap.size, 5, none⟩ (.string ⟨#[]⟩)).setCell ⟨w.heap.size, 6, none⟩ (.string ⟨#[]⟩)).heap[w.heap.size]? = some (.cells #[.int .i64 0, .int .i64 0, .int .i64 0, .int .i64 0, .string ⟨#[]⟩, .string ⟨#[]⟩, .string ⟨#[]⟩] 35 (0, 0)) := (blk_set (blk_set (blk_set (blk_set (blk_set (blk_set (blk_set A5 0 (.int .i64 0)) 1 (.int .i64 0)) 2 (.int .i64 0)) 3 (.int .i64 0)) 4 (.string ⟨#[]⟩)) 5 (.string ⟨#[]⟩)) 6 (.string ⟨#[]⟩))
    have GF : Below w.heap.size w (((((((w5.setCell ⟨w.heap.size, 0, none⟩ (.int .i64 0)).setCell ⟨w.heap.size, 1, none⟩ (.int .i64 0)).setCell ⟨w.heap.size, 2, none⟩ (.int .i64 0)).setCell ⟨w.heap.size, 3, none⟩ (.int .i64 0)).setCell ⟨w.heap.size, 4, none⟩ (.string ⟨#[]⟩)).setCell ⟨w.heap.size, 5, none⟩ (.string ⟨#[]⟩)).setCell ⟨w.heap.size, 6, none⟩ (.string ⟨#[]⟩)) := (Below.setCell (Below.setCell (Below.setCell (Below.setCell (Below.setCell (Below.setCell (Below.setCell G5 (p := ⟨w.heap.size, 0, none⟩) (Nat.le_refl _) (.int .i64 0)) (p := ⟨w.heap.size, 1, none⟩) (Nat.le_refl _) (.int .i64 0)) (p := ⟨w.heap.size, 2, none⟩) (Nat.le_refl _) (.int .i64 0)) (p := ⟨w.heap.size, 3, none⟩) (Nat.le_refl _) (.int .i64 0)) (p := ⟨w.heap.size, 4, none⟩) (Nat.le_refl _) (.string ⟨#[]⟩)) (p := ⟨w.heap.size, 5, none⟩) (Nat.le_refl _) (.string ⟨#[]⟩)) (p := ⟨w.heap.size, 6, none⟩) (Nat.le_refl _) (.string ⟨#[]⟩))
    go_wp2_with fail
    generalize (((((((w5.setCell ⟨w.heap.size, 0, none⟩ (.int .i64 0)).setCell ⟨w.heap.size, 1, none⟩ (.int .i64 0)).setCell ⟨w.heap.size, 2, none⟩ (.int .i64 0)).setCell ⟨w.heap.size, 3, none⟩ (.int .i64 0)).setCell ⟨w.heap.size, 4, none⟩ (.string ⟨#[]⟩)).setCell ⟨w.heap.size, 5, none⟩ (.string ⟨#[]⟩)).setCell ⟨w.heap.size, 6, none⟩ (.string ⟨#[]⟩)) = wf at AF GF ⊢
    have d0 := (blk_cell AF 0 (x := .int .i64 0) rfl).1
    have d1 := (blk_cell AF 1 (x := .int .i64 0) rfl).1
    have d2 := (blk_cell AF 2 (x := .int .i64 0) rfl).1
    have d3 := (blk_cell AF 3 (x := .int .i64 0) rfl).1
    have d4 := (blk_cell AF 4 (x := .string ⟨#[]⟩) rfl).1
    have d5 := (blk_cell AF 5 (x := .string ⟨#[]⟩) rfl).1
    have d6 := (blk_cell AF 6 (x := .string ⟨#[]⟩) rfl).1
    refine bodyPost_ret (v := .tuple #[.agg #[.int .i64 0, .int .i64 0, .int .i64 0, .int .i64 0, .string ⟨#[]⟩, .string ⟨#[]⟩, .string ⟨#[]⟩], .int .i64 3]) (by simp [results, Try.results16, go_sem, d0, d1, d2, d3, d4, d5, d6]) rfl ⟨ret_val HN.out.symm, GF⟩
end Go.Proofs.Ytdeologdmdimoaa.Om

/- A batch is read: ReadBatch of the program. -/
namespace Go.Proofs.Ytdeologdmdimoaa.Tkb
open Go.RowKit Go.Proofs.Ytdeologdmdimoaa.Sl Go.Proofs.Ytdeologdmdimoaa.By Go.Proofs.Ytdeologdmdimoaa.Ap Go.Proofs.Ytdeologdmdimoaa.Rq Go.Proofs.Ytdeologdmdimoaa.Rr Go.Proofs.Ytdeologdmdimoaa.Gr Go.Proofs.Ytdeologdmdimoaa.Bo
open Go.Proofs.Ytdeologdmdimoaa.Rg (RowG RowG.slice RowG.at lt_at mem_at bel_new)

structure Bv where
  nl : Bool
  c : Int
  st : Int
  k : Int
  l : Int
  n : ByteArray
  rs : List Rd
def bV (x : Bv) (v : Value) : Value := batV x.nl x.c x.st x.k x.l x.n v
def bOKx (x : Bv) : Bool := bOK x.nl x.c x.st x.k x.l x.n x.rs
def zbat : Array Value := #[.bool false, .int .i64 0, .int .i64 0, .int .i64 0, .int .i64 0, .string ⟨#[]⟩, .slice none 0 0]
def zBv : Bv := ⟨false, 0, 0, 0, 0, ⟨#[]⟩, []⟩
def rjX (long ok : Bool) (x : Bv) : Bv := if long then zBv else if ok then x else zBv
def rjC (long ok : Bool) : Int := if long then 2 else if ok then 0 else 3
theorem ret_x {X Y : Bv} {C D : Int} {u : Value} (h : X = Y ∧ C = D) : Ending.returned (.tuple #[.agg #[.bool Y.nl, .int .i64 Y.c, .int .i64 Y.st, .int .i64 Y.k, .int .i64 Y.l, .string Y.n, u], .int .i64 D]) = .returned (.tuple #[bV X u, .int .i64 C]) := by rw [h.1, h.2]; rfl
/-- How many the first byte tells; what is taken. -/
def cnt (xs : List Int) : Nat := (beN (tkB 1 xs)).toNat
def tbZ (xs : List Int) : List Int := bR (tkR 1 xs) (cnt xs - 1)
def tbX (xs : List Int) : Bv := if cnt xs = 0 then ⟨true, 0, 0, 0, 0, ⟨#[]⟩, []⟩ else ⟨false, rqC (tbZ xs), rqS (tbZ xs), rqK (tbZ xs), rqL (tbZ xs), rqN (tbZ xs), bL (tkR 1 xs) (cnt xs - 1)⟩
def tbR (xs : List Int) : List Int := if cnt xs = 0 then tkR 1 xs else rqRest (tbZ xs)
def tbS (xs : List Int) : Bool := if cnt xs = 0 then tkS 1 xs false else rqSh (tbZ xs) (bS (tkR 1 xs) (tkS 1 xs false) (cnt xs - 1))
theorem cnt_eq {xs : List Int} (hr : ∀ x ∈ xs, 0 ≤ x ∧ x ≤ 255) : beN (tkB 1 xs) = (cnt xs : Int) ∧ cnt xs ≤ 255 := by
  have h1 := beN_range _ (tkB_range (n := 1) hr)
  have h2 := tkB_len 1 xs
  have h3 : (256 : Int) ^ (tkB 1 xs).length ≤ 256 := by
    have : (tkB 1 xs).length = 0 ∨ (tkB 1 xs).length = 1 := by omega
    rcases this with h | h <;> rw [h] <;> decide
  unfold cnt
  omega
theorem takeBatch_any (p B : Nat) (xs : List Int) (w : World) (h : Rdr B w p xs false) (hB : B ≤ p) (hx : xs.length ≤ 70000) (hr : ∀ x ∈ xs, 0 ≤ x ∧ x ≤ 255) :
    Calls Try.prog 69 #[.pointer (some ⟨p, 0, none⟩)] w fun e w' => ∃ u, e = .returned (bV (tbX xs) u) ∧ OwnR w' w.heap.size u (tbX xs).rs ∧ Rdr B w' p (tbR xs) (tbS xs) ∧ w.grownBy w' (some p) := by
  obtain ⟨h1, h2⟩ := cnt_eq hr
  unfold tbX tbR tbS tbZ
  by_cases h0 : cnt xs = 0
  · rw [if_pos h0, if_pos h0, if_pos h0]
    rw [h0] at h1
    refine (takeBatch_no p B xs false w h hB hx hr h1).mono ?_
    rintro e w' ⟨rfl, r, g⟩
    refine ⟨.slice none 0 0, ?_, ?_, r, g⟩
    · dsimp only [bV]
    · exact OwnR.nil _ _
  · rw [if_neg h0, if_neg h0, if_neg h0]
    refine (takeBatch_yes p B (cnt xs - 1) xs false w h hB hx hr (by rw [h1]; omega) (by omega)).mono ?_
    rintro e w' ⟨u, rfl, o, r, g⟩
    refine ⟨u, ?_, ?_, r, g⟩
    · dsimp only [bV]
    · dsimp only
      exact o
set_option maxRecDepth 100000 in
set_option maxHeartbeats 1600000 in
theorem readJustBatch_gen (v : Value) (xs : List Int) (w : World) (h : RowB w v xs) (hl : xs.length ≤ 1048576) (x : Bv) (rs : List Int) (sb : Bool) (hn : x.n.size ≤ maxLen) (hrl : x.rs.length ≤ 1048576)
    (htake : ∀ (W : World) (p B : Nat), Rdr B W p xs false → B ≤ p → xs.length ≤ 70000 → (∀ x ∈ xs, 0 ≤ x ∧ x ≤ 255) → Calls Try.prog 69 #[.pointer (some ⟨p, 0, none⟩)] W fun e w' => ∃ u, e = .returned (bV x u) ∧ OwnR w' W.heap.size u x.rs ∧ Rdr B w' p rs sb ∧ W.grownBy w' (some p)) :
    Calls Try.prog 68 #[v, .func (Fn.func 69) #[] #[], .func (Fn.func 65) #[] #[]] w fun e w' => ∃ u, e = .returned (.tuple #[bV (rjX (decide (65536 < xs.length)) (!sb && (rs.isEmpty && bOKx x)) x) u, .int .i64 (rjC (decide (65536 < xs.length)) (!sb && (rs.isEmpty && bOKx x)))]) ∧ OwnR w' w.heap.size u (rjX (decide (65536 < xs.length)) (!sb && (rs.isEmpty && bOKx x)) x).rs ∧ Below w.heap.size w w' := by
  have HT : Hid (_) := htake
  clear htake
  have HU : Hid (RowU w.heap.size w v xs) := RowU.of h
  obtain ⟨a, cap, rfl, _, hr⟩ := h
  obtain ⟨RX, HRX⟩ : ∃ RX, Hid (rjX (decide (65536 < xs.length)) (!sb && (rs.isEmpty && bOKx x)) x = RX) := ⟨_, rfl⟩
  obtain ⟨RC, HRC⟩ : ∃ RC, Hid (rjC (decide (65536 < xs.length)) (!sb && (rs.isEmpty && bOKx x)) = RC) := ⟨_, rfl⟩
  rw [HRX.out, HRC.out]
  by_cases hb : 65536 < xs.length
  · have hb' : (65536 : Int) < (xs.length : Int) := by omega
    have HN : Hid (RX = zBv ∧ RC = 2) := by show _ ∧ _; rw [← HRX.out, ← HRC.out, decide_eq_true hb]; exact ⟨rfl, rfl⟩
    go_enter Try.func68, Try.ntmps68
    go_wp2_with fail
    refine bodyPost_ret (v := .tuple #[.agg zbat, .int .i64 2]) (by simp [zbat, results, Try.results68, go_sem]) rfl ⟨_, ret_x HN.out, by rw [HN.out.1]; exact OwnR.nil _ _, ((Below.refl _ _).alloc (Nat.le_refl _) _).alloc (by simp) _⟩
  have hb' : (xs.length : Int) ≤ 65536 := by omega
  have HR : Hid (∀ x ∈ xs, 0 ≤ x ∧ x ≤ 255) := hr
  have HX : Hid (xs.length ≤ 65536) := by show _ ≤ _; omega
  have HNS : Hid (∀ _ : Unit, x.n.size ≤ maxLen ∧ x.rs.length ≤ 1048576) := fun _ => ⟨hn, hrl⟩
  have W3s : Hid (((w.alloc (.cells zbat 52)).alloc (.cells zbat 52)).heap.size = w.heap.size + 1 + 1) := by show _ = _; rw [size_new, size_new]
  have H0 : Hid (Rdr w.heap.size (((w.alloc (.cells zbat 52)).alloc (.cells zbat 52)).alloc (.cells #[.slice a xs.length cap, .bool false] 111)) (w.heap.size + 1 + 1) xs false) := by
    refine ⟨_, ?_, HU.out.kept (fun k hk => ?_)⟩
    · have := blk_new ((w.alloc (.cells zbat 52)).alloc (.cells zbat 52)) #[.slice a xs.length cap, .bool false] 111
      rw [W3s.out] at this
      exact this
    · rw [Below.heap_alloc _ _ _ (by simp; omega), Below.heap_alloc _ _ _ (by simp; omega), Below.heap_alloc _ _ _ hk]
  have A0 : Hid ((((w.alloc (.cells zbat 52)).alloc (.cells zbat 52)).alloc (.cells #[.slice a xs.length cap, .bool false] 111)).heap[w.heap.size]? = some (.cells zbat 52 (0, 0))) := ((Below.heap_alloc _ _ _ (by simp; omega)).trans (Below.heap_alloc _ _ _ (by simp))).trans (blk_new _ _ _)
  have B0 : Hid ((((w.alloc (.cells zbat 52)).alloc (.cells zbat 52)).alloc (.cells #[.slice a xs.length cap, .bool false] 111)).heap[w.heap.size + 1]? = some (.cells zbat 52 (0, 0))) := by
    have := blk_new (w.alloc (.cells zbat 52)) zbat 52
    rw [size_new] at this
    exact (Below.heap_alloc _ _ _ (by simp)).trans this
  have G0 : Hid (Below w.heap.size w (((w.alloc (.cells zbat 52)).alloc (.cells zbat 52)).alloc (.cells #[.slice a xs.length cap, .bool false] 111))) := (((Below.refl _ _).alloc (Nat.le_refl _) _).alloc (by simp) _).alloc (by simp; omega) _
  clear hr hl HU W3s hn hrl
  go_enter Try.func68, Try.ntmps68
  go_wp2_with fail
  refine (HT.out _ (w.heap.size + 1 + 1) w.heap.size H0.out (by omega) (by have := HX.out; omega) HR.out).mono ?_
  rintro e w4 ⟨u4, rfl, o4, r4, g4⟩
  obtain ⟨a4, cap4, rfl⟩ := RowG.slice (OwnR.row o4)
  unfold bV batV
  have S0 : w.heap.size + 1 + 1 < (((w.alloc (.cells zbat 52)).alloc (.cells zbat 52)).alloc (.cells #[.slice a xs.length cap, .bool false] 111)).heap.size := by rw [size_new, size_new, size_new]; omega
  have G4 : Below w.heap.size w w4 := ⟨g4.os.trans G0.out.os, g4.tape.trans G0.out.tape, g4.output.trans G0.out.output, Nat.le_trans G0.out.size g4.size, fun k hk => (below_kept g4 (by omega) S0 k hk).trans (G0.out.block k hk)⟩
  have hp4 : w.heap.size + 1 + 1 < w4.heap.size := Nat.lt_of_lt_of_le S0 g4.size
  have a4' := blk_kept A0.out g4 (by omega)
  have b4 := blk_kept B0.out g4 (by omega)
  have O5 : Hid (OwnR (w4.alloc (.cells #[.bool x.nl, .int .i64 x.c, .int .i64 x.st, .int .i64 x.k, .int .i64 x.l, .string x.n, .slice a4 x.rs.length cap4] 52)) (w.heap.size + 1) (.slice a4 x.rs.length cap4) x.rs) := (o4.mono (by rw [size_new, size_new, size_new]; omega)).alloc _
  obtain ⟨v4, p4, a', cap', rfl, _, _, _⟩ := r4
  have A5 : (w4.alloc (.cells #[.bool x.nl, .int .i64 x.c, .int .i64 x.st, .int .i64 x.k, .int .i64 x.l, .string x.n, .slice a4 x.rs.length cap4] 52)).heap[w.heap.size]? = some (.cells zbat 52 (0, 0)) := (Below.heap_alloc _ _ _ (by omega)).trans a4'
  have B5 : (w4.alloc (.cells #[.bool x.nl, .int .i64 x.c, .int .i64 x.st, .int .i64 x.k, .int .i64 x.l, .string x.n, .slice a4 x.rs.length cap4] 52)).heap[w.heap.size + 1]? = some (.cells zbat 52 (0, 0)) := (Below.heap_alloc _ _ _ (by omega)).trans b4
  have P5 := (Below.heap_alloc w4 (.cells #[.bool x.nl, .int .i64 x.c, .int .i64 x.st, .int .i64 x.k, .int .i64 x.l, .string x.n, .slice a4 x.rs.length cap4] 52) _ hp4).trans p4
  have X5 : (w4.alloc (.cells #[.bool x.nl, .int .i64 x.c, .int .i64 x.st, .int .i64 x.k, .int .i64 x.l, .string x.n, .slice a4 x.rs.length cap4] 52)).heap[w4.heap.size]? = some (.cells #[.bool x.nl, .int .i64 x.c, .int .i64 x.st, .int .i64 x.k, .int .i64 x.l, .string x.n, .slice a4 x.rs.length cap4] 52 (0, 0)) := blk_new _ _ _
  have G5 : Below w.heap.size w (w4.alloc (.cells #[.bool x.nl, .int .i64 x.c, .int .i64 x.st, .int .i64 x.k, .int .i64 x.l, .string x.n, .slice a4 x.rs.length cap4] 52)) := G4.alloc G4.size _
  have HE : Hid (RX = (if (!sb && (rs.isEmpty && bOKx x)) then x else zBv) ∧ RC = (if (!sb && (rs.isEmpty && bOKx x)) then 0 else 3)) := by show _ ∧ _; rw [← HRX.out, ← HRC.out, decide_eq_false (by have := HX.out; omega)]; exact ⟨rfl, rfl⟩
  clear HT g4 H0 A0 B0 G0 S0 a4' b4 p4 G4 hp4 o4 HRX HRC
  go_upto_region 6 with fail
  generalize (w4.alloc (.cells #[.bool x.nl, .int .i64 x.c, .int .i64 x.st, .int .i64 x.k, .int .i64 x.l, .string x.n, .slice a4 x.rs.length cap4] 52)) = w5 at A5 B5 P5 X5 G5 O5 ⊢
  have hx5 : w4.heap.size < w5.heap.size := (Array.getElem?_eq_some_iff.1 X5).1
  generalize w4.heap.size = x5 at X5 hx5 ⊢
  obtain ⟨p0, _⟩ := blk_cell P5 0 (x := .slice a' rs.length cap') rfl
  obtain ⟨p1, _⟩ := blk_cell P5 1 (x := .bool sb) rfl
  clear P5
  rcases Bool.eq_false_or_eq_true sb with hsb | hsb
  case inl =>
    rw [hsb] at p1
    have HN : Hid (RX = zBv ∧ RC = 3) := by show _ ∧ _; rw [HE.out.1, HE.out.2, hsb]; exact ⟨rfl, rfl⟩
    have yc0 := (blk_cell B5 0 (x := .bool false) rfl).1
    have yc1 := (blk_cell B5 1 (x := .int .i64 0) rfl).1
    have yc2 := (blk_cell B5 2 (x := .int .i64 0) rfl).1
    have yc3 := (blk_cell B5 3 (x := .int .i64 0) rfl).1
    have yc4 := (blk_cell B5 4 (x := .int .i64 0) rfl).1
    have yc5 := (blk_cell B5 5 (x := .string ⟨#[]⟩) rfl).1
    have yc6 := (blk_cell B5 6 (x := .slice none 0 0) rfl).1
    obtain ⟨zc0, zf0⟩ := blk_cell A5 0 (x := .bool false) rfl
    obtain ⟨zc1, zf1⟩ := blk_cell A5 1 (x := .int .i64 0) rfl
    obtain ⟨zc2, zf2⟩ := blk_cell A5 2 (x := .int .i64 0) rfl
    obtain ⟨zc3, zf3⟩ := blk_cell A5 3 (x := .int .i64 0) rfl
    obtain ⟨zc4, zf4⟩ := blk_cell A5 4 (x := .int .i64 0) rfl
    obtain ⟨zc5, zf5⟩ := blk_cell A5 5 (x := .string ⟨#[]⟩) rfl
    obtain ⟨zc6, zf6⟩ := blk_cell A5 6 (x := .slice none 0 0) rfl
    clear HE O5
    have AF : (((((((w5.setCell ⟨w.heap.size, 0, none⟩ (.bool false)).setCell ⟨w.heap.size, 1, none⟩ (.int .i64 0)).setCell ⟨w.heap.size, 2, none⟩ (.int .i64 0)).setCell ⟨w.heap.size, 3, none⟩ (.int .i64 0)).setCell ⟨w.heap.size, 4, none⟩ (.int .i64 0)).setCell ⟨w.heap.size, 5, none⟩ (.string ⟨#[]⟩)).setCell ⟨w.heap.size, 6, none⟩ (.slice none 0 0)).heap[w.heap.size]? = some (.cells #[.bool false, .int .i64 0, .int .i64 0, .int .i64 0, .int .i64 0, .string ⟨#[]⟩, .slice none 0 0] 52 (0, 0)) := (blk_set (blk_set (blk_set (blk_set (blk_set (blk_set (blk_set A5 0 (.bool false)) 1 (.int .i64 0)) 2 (.int .i64 0)) 3 (.int .i64 0)) 4 (.int .i64 0)) 5 (.string ⟨#[]⟩)) 6 (.slice none 0 0))
    have GF : Hid (Below w.heap.size w (((((((w5.setCell ⟨w.heap.size, 0, none⟩ (.bool false)).setCell ⟨w.heap.size, 1, none⟩ (.int .i64 0)).setCell ⟨w.heap.size, 2, none⟩ (.int .i64 0)).setCell ⟨w.heap.size, 3, none⟩ (.int .i64 0)).setCell ⟨w.heap.size, 4, none⟩ (.int .i64 0)).setCell ⟨w.heap.size, 5, none⟩ (.string ⟨#[]⟩)).setCell ⟨w.heap.size, 6, none⟩ (.slice none 0 0))) := (Below.setCell (Below.setCell (Below.setCell (Below.setCell (Below.setCell (Below.setCell (Below.setCell G5 (p := ⟨w.heap.size, 0, none⟩) (Nat.le_refl _) (.bool false)) (p := ⟨w.heap.size, 1, none⟩) (Nat.le_refl _) (.int .i64 0)) (p := ⟨w.heap.size, 2, none⟩) (Nat.le_refl _) (.int .i64 0)) (p := ⟨w.heap.size, 3, none⟩) (Nat.le_refl _) (.int .i64 0)) (p := ⟨w.heap.size, 4, none⟩) (Nat.le_refl _) (.int .i64 0)) (p := ⟨w.heap.size, 5, none⟩) (Nat.le_refl _) (.string ⟨#[]⟩)) (p := ⟨w.heap.size, 6, none⟩) (Nat.le_refl _) (.slice none 0 0))
    go_wp2_with fail
    generalize (((((((w5.setCell ⟨w.heap.size, 0, none⟩ (.bool false)).setCell ⟨w.heap.size, 1, none⟩ (.int .i64 0)).setCell ⟨w.heap.size, 2, none⟩ (.int .i64 0)).setCell ⟨w.heap.size, 3, none⟩ (.int .i64 0)).setCell ⟨w.heap.size, 4, none⟩ (.int .i64 0)).setCell ⟨w.heap.size, 5, none⟩ (.string ⟨#[]⟩)).setCell ⟨w.heap.size, 6, none⟩ (.slice none 0 0)) = wf at AF GF ⊢
    have d0 := (blk_cell AF 0 (x := .bool false) rfl).1
    have d1 := (blk_cell AF 1 (x := .int .i64 0) rfl).1
    have d2 := (blk_cell AF 2 (x := .int .i64 0) rfl).1
    have d3 := (blk_cell AF 3 (x := .int .i64 0) rfl).1
    have d4 := (blk_cell AF 4 (x := .int .i64 0) rfl).1
    have d5 := (blk_cell AF 5 (x := .string ⟨#[]⟩) rfl).1
    have d6 := (blk_cell AF 6 (x := .slice none 0 0) rfl).1
    refine bodyPost_ret (v := .tuple #[.agg #[.bool false, .int .i64 0, .int .i64 0, .int .i64 0, .int .i64 0, .string ⟨#[]⟩, .slice none 0 0], .int .i64 3]) (by simp [results, Try.results68, go_sem, d0, d1, d2, d3, d4, d5, d6]) rfl ⟨_, ret_x HN.out, by rw [HN.out.1]; exact OwnR.nil _ _, GF.out⟩
  case inr =>
  rw [hsb] at p1
  rcases rs with _ | ⟨y, ys⟩
  rotate_left
  · have HN : Hid (RX = zBv ∧ RC = 3) := by show _ ∧ _; rw [HE.out.1, HE.out.2, hsb]; exact ⟨rfl, rfl⟩
    have hlen : 0 < (y :: ys).length := Nat.succ_pos _
    have hdec : decide (0 < (y :: ys).length) = true := decide_eq_true hlen
    generalize (y :: ys).length = len at p0 hlen hdec
    have yc0 := (blk_cell B5 0 (x := .bool false) rfl).1
    have yc1 := (blk_cell B5 1 (x := .int .i64 0) rfl).1
    have yc2 := (blk_cell B5 2 (x := .int .i64 0) rfl).1
    have yc3 := (blk_cell B5 3 (x := .int .i64 0) rfl).1
    have yc4 := (blk_cell B5 4 (x := .int .i64 0) rfl).1
    have yc5 := (blk_cell B5 5 (x := .string ⟨#[]⟩) rfl).1
    have yc6 := (blk_cell B5 6 (x := .slice none 0 0) rfl).1
    obtain ⟨zc0, zf0⟩ := blk_cell A5 0 (x := .bool false) rfl
    obtain ⟨zc1, zf1⟩ := blk_cell A5 1 (x := .int .i64 0) rfl
    obtain ⟨zc2, zf2⟩ := blk_cell A5 2 (x := .int .i64 0) rfl
    obtain ⟨zc3, zf3⟩ := blk_cell A5 3 (x := .int .i64 0) rfl
    obtain ⟨zc4, zf4⟩ := blk_cell A5 4 (x := .int .i64 0) rfl
    obtain ⟨zc5, zf5⟩ := blk_cell A5 5 (x := .string ⟨#[]⟩) rfl
    obtain ⟨zc6, zf6⟩ := blk_cell A5 6 (x := .slice none 0 0) rfl
    clear HE O5
    have AF : (((((((w5.setCell ⟨w.heap.size, 0, none⟩ (.bool false)).setCell ⟨w.heap.size, 1, none⟩ (.int .i64 0)).setCell ⟨w.heap.size, 2, none⟩ (.int .i64 0)).setCell ⟨w.heap.size, 3, none⟩ (.int .i64 0)).setCell ⟨w.heap.size, 4, none⟩ (.int .i64 0)).setCell ⟨w.heap.size, 5, none⟩ (.string ⟨#[]⟩)).setCell ⟨w.heap.size, 6, none⟩ (.slice none 0 0)).heap[w.heap.size]? = some (.cells #[.bool false, .int .i64 0, .int .i64 0, .int .i64 0, .int .i64 0, .string ⟨#[]⟩, .slice none 0 0] 52 (0, 0)) := (blk_set (blk_set (blk_set (blk_set (blk_set (blk_set (blk_set A5 0 (.bool false)) 1 (.int .i64 0)) 2 (.int .i64 0)) 3 (.int .i64 0)) 4 (.int .i64 0)) 5 (.string ⟨#[]⟩)) 6 (.slice none 0 0))
    have GF : Hid (Below w.heap.size w (((((((w5.setCell ⟨w.heap.size, 0, none⟩ (.bool false)).setCell ⟨w.heap.size, 1, none⟩ (.int .i64 0)).setCell ⟨w.heap.size, 2, none⟩ (.int .i64 0)).setCell ⟨w.heap.size, 3, none⟩ (.int .i64 0)).setCell ⟨w.heap.size, 4, none⟩ (.int .i64 0)).setCell ⟨w.heap.size, 5, none⟩ (.string ⟨#[]⟩)).setCell ⟨w.heap.size, 6, none⟩ (.slice none 0 0))) := (Below.setCell (Below.setCell (Below.setCell (Below.setCell (Below.setCell (Below.setCell (Below.setCell G5 (p := ⟨w.heap.size, 0, none⟩) (Nat.le_refl _) (.bool false)) (p := ⟨w.heap.size, 1, none⟩) (Nat.le_refl _) (.int .i64 0)) (p := ⟨w.heap.size, 2, none⟩) (Nat.le_refl _) (.int .i64 0)) (p := ⟨w.heap.size, 3, none⟩) (Nat.le_refl _) (.int .i64 0)) (p := ⟨w.heap.size, 4, none⟩) (Nat.le_refl _) (.int .i64 0)) (p := ⟨w.heap.size, 5, none⟩) (Nat.le_refl _) (.string ⟨#[]⟩)) (p := ⟨w.heap.size, 6, none⟩) (Nat.le_refl _) (.slice none 0 0))
    go_wp2_with fail
    generalize (((((((w5.setCell ⟨w.heap.size, 0, none⟩ (.bool false)).setCell ⟨w.heap.size, 1, none⟩ (.int .i64 0)).setCell ⟨w.heap.size, 2, none⟩ (.int .i64 0)).setCell ⟨w.heap.size, 3, none⟩ (.int .i64 0)).setCell ⟨w.heap.size, 4, none⟩ (.int .i64 0)).setCell ⟨w.heap.size, 5, none⟩ (.string ⟨#[]⟩)).setCell ⟨w.heap.size, 6, none⟩ (.slice none 0 0)) = wf at AF GF ⊢
    have d0 := (blk_cell AF 0 (x := .bool false) rfl).1
    have d1 := (blk_cell AF 1 (x := .int .i64 0) rfl).1
    have d2 := (blk_cell AF 2 (x := .int .i64 0) rfl).1
    have d3 := (blk_cell AF 3 (x := .int .i64 0) rfl).1
    have d4 := (blk_cell AF 4 (x := .int .i64 0) rfl).1
    have d5 := (blk_cell AF 5 (x := .string ⟨#[]⟩) rfl).1
    have d6 := (blk_cell AF 6 (x := .slice none 0 0) rfl).1
    refine bodyPost_ret (v := .tuple #[.agg #[.bool false, .int .i64 0, .int .i64 0, .int .i64 0, .int .i64 0, .string ⟨#[]⟩, .slice none 0 0], .int .i64 3]) (by simp [results, Try.results68, go_sem, d0, d1, d2, d3, d4, d5, d6]) rfl ⟨_, ret_x HN.out, by rw [HN.out.1]; exact OwnR.nil _ _, GF.out⟩
  have xc0 := (blk_cell X5 0 (x := .bool x.nl) rfl).1
  have xc1 := (blk_cell X5 1 (x := .int .i64 x.c) rfl).1
  have xc2 := (blk_cell X5 2 (x := .int .i64 x.st) rfl).1
  have xc3 := (blk_cell X5 3 (x := .int .i64 x.k) rfl).1
  have xc4 := (blk_cell X5 4 (x := .int .i64 x.l) rfl).1
  have xc5 := (blk_cell X5 5 (x := .string x.n) rfl).1
  have xc6 := (blk_cell X5 6 (x := .slice a4 x.rs.length cap4) rfl).1
  have HE2 : Hid (RX = (if bOKx x then x else zBv) ∧ RC = (if bOKx x then 0 else 3)) := by show _ ∧ _; rw [HE.out.1, HE.out.2, hsb]; exact ⟨rfl, rfl⟩
  clear HE
  go_wp2_with fail
  refine (batchOK_any x.nl x.c x.st x.k x.l x.n _ x.rs _ O5.out.row (HNS.out ()).2 (HNS.out ()).1).mono ?_
  rintro e w6 ⟨rfl, b6⟩
  have t5 : w.heap.size + 1 < w5.heap.size := (Array.getElem?_eq_some_iff.1 B5).1
  have A6 := (b6.block w.heap.size (by omega)).trans A5
  have B6 := (b6.block (w.heap.size + 1) t5).trans B5
  have X6 := (b6.block x5 hx5).trans X5
  have G6 : Below w.heap.size w w6 := G5.trans (b6.mono G5.size)
  have O6 : Hid (OwnR w6 (w.heap.size + 1) (.slice a4 x.rs.length cap4) x.rs) := O5.out.below b6
  clear A5 B5 X5 G5 b6 hx5 t5 p0 p1 O5 xc0 xc1 xc2 xc3 xc4 xc5 xc6
  have EB : Hid (bOK x.nl x.c x.st x.k x.l x.n x.rs = bOKx x) := rfl
  rw [EB.out]
  clear EB
  cases hq : bOKx x
  case false =>
    have HN : Hid (RX = zBv ∧ RC = 3) := by show _ ∧ _; rw [HE2.out.1, HE2.out.2, hq]; exact ⟨rfl, rfl⟩
    have yc0 := (blk_cell B6 0 (x := .bool false) rfl).1
    have yc1 := (blk_cell B6 1 (x := .int .i64 0) rfl).1
    have yc2 := (blk_cell B6 2 (x := .int .i64 0) rfl).1
    have yc3 := (blk_cell B6 3 (x := .int .i64 0) rfl).1
    have yc4 := (blk_cell B6 4 (x := .int .i64 0) rfl).1
    have yc5 := (blk_cell B6 5 (x := .string ⟨#[]⟩) rfl).1
    have yc6 := (blk_cell B6 6 (x := .slice none 0 0) rfl).1
    obtain ⟨zc0, zf0⟩ := blk_cell A6 0 (x := .bool false) rfl
    obtain ⟨zc1, zf1⟩ := blk_cell A6 1 (x := .int .i64 0) rfl
    obtain ⟨zc2, zf2⟩ := blk_cell A6 2 (x := .int .i64 0) rfl
    obtain ⟨zc3, zf3⟩ := blk_cell A6 3 (x := .int .i64 0) rfl
    obtain ⟨zc4, zf4⟩ := blk_cell A6 4 (x := .int .i64 0) rfl
    obtain ⟨zc5, zf5⟩ := blk_cell A6 5 (x := .string ⟨#[]⟩) rfl
    obtain ⟨zc6, zf6⟩ := blk_cell A6 6 (x := .slice none 0 0) rfl
    clear HE2 O6
    have AF : (((((((w6.setCell ⟨w.heap.size, 0, none⟩ (.bool false)).setCell ⟨w.heap.size, 1, none⟩ (.int .i64 0)).setCell ⟨w.heap.size, 2, none⟩ (.int .i64 0)).setCell ⟨w.heap.size, 3, none⟩ (.int .i64 0)).setCell ⟨w.heap.size, 4, none⟩ (.int .i64 0)).setCell ⟨w.heap.size, 5, none⟩ (.string ⟨#[]⟩)).setCell ⟨w.heap.size, 6, none⟩ (.slice none 0 0)).heap[w.heap.size]? = some (.cells #[.bool false, .int .i64 0, .int .i64 0, .int .i64 0, .int .i64 0, .string ⟨#[]⟩, .slice none 0 0] 52 (0, 0)) := (blk_set (blk_set (blk_set (blk_set (blk_set (blk_set (blk_set A6 0 (.bool false)) 1 (.int .i64 0)) 2 (.int .i64 0)) 3 (.int .i64 0)) 4 (.int .i64 0)) 5 (.string ⟨#[]⟩)) 6 (.slice none 0 0))
    have GF : Hid (Below w.heap.size w (((((((w6.setCell ⟨w.heap.size, 0, none⟩ (.bool false)).setCell ⟨w.heap.size, 1, none⟩ (.int .i64 0)).setCell ⟨w.heap.size, 2, none⟩ (.int .i64 0)).setCell ⟨w.heap.size, 3, none⟩ (.int .i64 0)).setCell ⟨w.heap.size, 4, none⟩ (.int .i64 0)).setCell ⟨w.heap.size, 5, none⟩ (.string ⟨#[]⟩)).setCell ⟨w.heap.size, 6, none⟩ (.slice none 0 0))) := (Below.setCell (Below.setCell (Below.setCell (Below.setCell (Below.setCell (Below.setCell (Below.setCell G6 (p := ⟨w.heap.size, 0, none⟩) (Nat.le_refl _) (.bool false)) (p := ⟨w.heap.size, 1, none⟩) (Nat.le_refl _) (.int .i64 0)) (p := ⟨w.heap.size, 2, none⟩) (Nat.le_refl _) (.int .i64 0)) (p := ⟨w.heap.size, 3, none⟩) (Nat.le_refl _) (.int .i64 0)) (p := ⟨w.heap.size, 4, none⟩) (Nat.le_refl _) (.int .i64 0)) (p := ⟨w.heap.size, 5, none⟩) (Nat.le_refl _) (.string ⟨#[]⟩)) (p := ⟨w.heap.size, 6, none⟩) (Nat.le_refl _) (.slice none 0 0))
    go_wp2_with fail
    generalize (((((((w6.setCell ⟨w.heap.size, 0, none⟩ (.bool false)).setCell ⟨w.heap.size, 1, none⟩ (.int .i64 0)).setCell ⟨w.heap.size, 2, none⟩ (.int .i64 0)).setCell ⟨w.heap.size, 3, none⟩ (.int .i64 0)).setCell ⟨w.heap.size, 4, none⟩ (.int .i64 0)).setCell ⟨w.heap.size, 5, none⟩ (.string ⟨#[]⟩)).setCell ⟨w.heap.size, 6, none⟩ (.slice none 0 0)) = wf at AF GF ⊢
    have d0 := (blk_cell AF 0 (x := .bool false) rfl).1
    have d1 := (blk_cell AF 1 (x := .int .i64 0) rfl).1
    have d2 := (blk_cell AF 2 (x := .int .i64 0) rfl).1
    have d3 := (blk_cell AF 3 (x := .int .i64 0) rfl).1
    have d4 := (blk_cell AF 4 (x := .int .i64 0) rfl).1
    have d5 := (blk_cell AF 5 (x := .string ⟨#[]⟩) rfl).1
    have d6 := (blk_cell AF 6 (x := .slice none 0 0) rfl).1
    refine bodyPost_ret (v := .tuple #[.agg #[.bool false, .int .i64 0, .int .i64 0, .int .i64 0, .int .i64 0, .string ⟨#[]⟩, .slice none 0 0], .int .i64 3]) (by simp [results, Try.results68, go_sem, d0, d1, d2, d3, d4, d5, d6]) rfl ⟨_, ret_x HN.out, by rw [HN.out.1]; exact OwnR.nil _ _, GF.out⟩
  case true =>
    have HN : Hid (RX = x ∧ RC = 0) := by show _ ∧ _; rw [HE2.out.1, HE2.out.2, hq]; exact ⟨rfl, rfl⟩
    have xc0 := (blk_cell X6 0 (x := .bool x.nl) rfl).1
    have xc1 := (blk_cell X6 1 (x := .int .i64 x.c) rfl).1
    have xc2 := (blk_cell X6 2 (x := .int .i64 x.st) rfl).1
    have xc3 := (blk_cell X6 3 (x := .int .i64 x.k) rfl).1
    have xc4 := (blk_cell X6 4 (x := .int .i64 x.l) rfl).1
    have xc5 := (blk_cell X6 5 (x := .string x.n) rfl).1
    have xc6 := (blk_cell X6 6 (x := .slice a4 x.rs.length cap4) rfl).1
    obtain ⟨zc0, zf0⟩ := blk_cell A6 0 (x := .bool false) rfl
    obtain ⟨zc1, zf1⟩ := blk_cell A6 1 (x := .int .i64 0) rfl
    obtain ⟨zc2, zf2⟩ := blk_cell A6 2 (x := .int .i64 0) rfl
    obtain ⟨zc3, zf3⟩ := blk_cell A6 3 (x := .int .i64 0) rfl
    obtain ⟨zc4, zf4⟩ := blk_cell A6 4 (x := .int .i64 0) rfl
    obtain ⟨zc5, zf5⟩ := blk_cell A6 5 (x := .string ⟨#[]⟩) rfl
    obtain ⟨zc6, zf6⟩ := blk_cell A6 6 (x := .slice none 0 0) rfl
    clear HE2
    have AF : (((((((w6.setCell ⟨w.heap.size, 0, none⟩ (.bool x.nl)).setCell ⟨w.heap.size, 1, none⟩ (.int .i64 x.c)).setCell ⟨w.heap.size, 2, none⟩ (.int .i64 x.st)).setCell ⟨w.heap.size, 3, none⟩ (.int .i64 x.k)).setCell ⟨w.heap.size, 4, none⟩ (.int .i64 x.l)).setCell ⟨w.heap.size, 5, none⟩ (.string x.n)).setCell ⟨w.heap.size, 6, none⟩ (.slice a4 x.rs.length cap4)).heap[w.heap.size]? = some (.cells #[.bool x.nl, .int .i64 x.c, .int .i64 x.st, .int .i64 x.k, .int .i64 x.l, .string x.n, .slice a4 x.rs.length cap4] 52 (0, 0)) := (blk_set (blk_set (blk_set (blk_set (blk_set (blk_set (blk_set A6 0 (.bool x.nl)) 1 (.int .i64 x.c)) 2 (.int .i64 x.st)) 3 (.int .i64 x.k)) 4 (.int .i64 x.l)) 5 (.string x.n)) 6 (.slice a4 x.rs.length cap4))
    have GF : Hid (Below w.heap.size w (((((((w6.setCell ⟨w.heap.size, 0, none⟩ (.bool x.nl)).setCell ⟨w.heap.size, 1, none⟩ (.int .i64 x.c)).setCell ⟨w.heap.size, 2, none⟩ (.int .i64 x.st)).setCell ⟨w.heap.size, 3, none⟩ (.int .i64 x.k)).setCell ⟨w.heap.size, 4, none⟩ (.int .i64 x.l)).setCell ⟨w.heap.size, 5, none⟩ (.string x.n)).setCell ⟨w.heap.size, 6, none⟩ (.slice a4 x.rs.length cap4))) := (Below.setCell (Below.setCell (Below.setCell (Below.setCell (Below.setCell (Below.setCell (Below.setCell G6 (p := ⟨w.heap.size, 0, none⟩) (Nat.le_refl _) (.bool x.nl)) (p := ⟨w.heap.size, 1, none⟩) (Nat.le_refl _) (.int .i64 x.c)) (p := ⟨w.heap.size, 2, none⟩) (Nat.le_refl _) (.int .i64 x.st)) (p := ⟨w.heap.size, 3, none⟩) (Nat.le_refl _) (.int .i64 x.k)) (p := ⟨w.heap.size, 4, none⟩) (Nat.le_refl _) (.int .i64 x.l)) (p := ⟨w.heap.size, 5, none⟩) (Nat.le_refl _) (.string x.n)) (p := ⟨w.heap.size, 6, none⟩) (Nat.le_refl _) (.slice a4 x.rs.length cap4))
    have OF : Hid (OwnR (((((((w6.setCell ⟨w.heap.size, 0, none⟩ (.bool x.nl)).setCell ⟨w.heap.size, 1, none⟩ (.int .i64 x.c)).setCell ⟨w.heap.size, 2, none⟩ (.int .i64 x.st)).setCell ⟨w.heap.size, 3, none⟩ (.int .i64 x.k)).setCell ⟨w.heap.size, 4, none⟩ (.int .i64 x.l)).setCell ⟨w.heap.size, 5, none⟩ (.string x.n)).setCell ⟨w.heap.size, 6, none⟩ (.slice a4 x.rs.length cap4)) w.heap.size (.slice a4 x.rs.length cap4) x.rs) := (O6.out.mono (by omega)).kept (fun g hg => by have := (O6.out.lt g hg).1; exact ((blk_far (by omega) 6 (.slice a4 x.rs.length cap4)).trans ((blk_far (by omega) 5 (.string x.n)).trans ((blk_far (by omega) 4 (.int .i64 x.l)).trans ((blk_far (by omega) 3 (.int .i64 x.k)).trans ((blk_far (by omega) 2 (.int .i64 x.st)).trans ((blk_far (by omega) 1 (.int .i64 x.c)).trans (blk_far (by omega) 0 (.bool x.nl)))))))))
    go_wp2_with fail
    generalize (((((((w6.setCell ⟨w.heap.size, 0, none⟩ (.bool x.nl)).setCell ⟨w.heap.size, 1, none⟩ (.int .i64 x.c)).setCell ⟨w.heap.size, 2, none⟩ (.int .i64 x.st)).setCell ⟨w.heap.size, 3, none⟩ (.int .i64 x.k)).setCell ⟨w.heap.size, 4, none⟩ (.int .i64 x.l)).setCell ⟨w.heap.size, 5, none⟩ (.string x.n)).setCell ⟨w.heap.size, 6, none⟩ (.slice a4 x.rs.length cap4)) = wf at AF GF OF ⊢
    have d0 := (blk_cell AF 0 (x := .bool x.nl) rfl).1
    have d1 := (blk_cell AF 1 (x := .int .i64 x.c) rfl).1
    have d2 := (blk_cell AF 2 (x := .int .i64 x.st) rfl).1
    have d3 := (blk_cell AF 3 (x := .int .i64 x.k) rfl).1
    have d4 := (blk_cell AF 4 (x := .int .i64 x.l) rfl).1
    have d5 := (blk_cell AF 5 (x := .string x.n) rfl).1
    have d6 := (blk_cell AF 6 (x := .slice a4 x.rs.length cap4) rfl).1
    refine bodyPost_ret (v := .tuple #[.agg #[.bool x.nl, .int .i64 x.c, .int .i64 x.st, .int .i64 x.k, .int .i64 x.l, .string x.n, .slice a4 x.rs.length cap4], .int .i64 0]) (by simp [results, Try.results68, go_sem, d0, d1, d2, d3, d4, d5, d6]) rfl ⟨_, ret_x HN.out, by rw [HN.out.1]; exact OF.out, GF.out⟩

def rbOK (xs : List Int) : Bool := !tbS xs && ((tbR xs).isEmpty && bOKx (tbX xs))
def rbX (xs : List Int) : Bv := rjX (decide (65536 < xs.length)) (rbOK xs) (tbX xs)
def rbC (xs : List Int) : Int := rjC (decide (65536 < xs.length)) (rbOK xs)
theorem tbX_small (xs : List Int) (hr : ∀ x ∈ xs, 0 ≤ x ∧ x ≤ 255) (hl : xs.length ≤ 1048576) : (tbX xs).n.size ≤ maxLen ∧ (tbX xs).rs.length ≤ 255 := by
  unfold tbX
  split
  · exact ⟨by show (0 : Nat) ≤ _; omega, by show (0 : Nat) ≤ _; omega⟩
  · refine ⟨Of.rqN_small _ ?_, ?_⟩
    · unfold tbZ; exact Nat.le_trans (bR_len _ _) (Nat.le_trans (tkR_len _ _) hl)
    · show (bL _ _).length ≤ _
      rw [bL_len]
      have := (cnt_eq hr).2
      omega
set_option maxRecDepth 100000 in
set_option maxHeartbeats 800000 in
theorem implReadBatch_any (v : Value) (xs : List Int) (w : World) (h : RowB w v xs) (hl : xs.length ≤ 1048576) :
    Calls Try.prog 25 #[v] w fun e w' => ∃ u, e = .returned (.tuple #[bV (rbX xs) u, .int .i64 (rbC xs)]) ∧ OwnR w' w.heap.size u (rbX xs).rs ∧ Below w.heap.size w w' := by
  have hr : ∀ x ∈ xs, 0 ≤ x ∧ x ≤ 255 := by obtain ⟨_, _, _, _, h⟩ := h; exact h
  have HS := tbX_small xs hr hl
  have HJ := readJustBatch_gen v xs (w.alloc (.cells zbat 52)) (h.below (bel_new _ _)) hl (tbX xs) (tbR xs) (tbS xs) HS.1 (by omega) (fun W p B h1 h2 h3 h4 => takeBatch_any p B xs W h1 h2 h3 h4)
  obtain ⟨RX, HRX⟩ : ∃ RX, Hid (rbX xs = RX) := ⟨_, rfl⟩
  obtain ⟨RC, HRC⟩ : ∃ RC, Hid (rbC xs = RC) := ⟨_, rfl⟩
  have E1 : Hid (rjX (decide (65536 < xs.length)) (!tbS xs && ((tbR xs).isEmpty && bOKx (tbX xs))) (tbX xs) = RX) := HRX.out
  have E2 : Hid (rjC (decide (65536 < xs.length)) (!tbS xs && ((tbR xs).isEmpty && bOKx (tbX xs))) = RC) := HRC.out
  rw [E1.out, E2.out] at HJ
  rw [HRX.out, HRC.out]
  clear HS hr hl E1 E2 HRX HRC
  go_enter Try.func25, Try.ntmps25
  go_wp2_with fail
  refine HJ.mono ?_
  rintro e w1 ⟨u, rfl, o1, b1⟩
  obtain ⟨a1, cap1, rfl⟩ := RowG.slice (OwnR.row o1)
  unfold bV batV
  have A1 : w1.heap[w.heap.size]? = some (.cells zbat 52 (0, 0)) := (b1.block _ (by simp)).trans (heap_alloc_new w _)
  have G1 : Below w.heap.size w w1 := (bel_new w _).trans (b1.mono (by simp))
  have O1 : Hid (OwnR w1 (w.heap.size + 1) (.slice a1 RX.rs.length cap1) RX.rs) := by rw [size_new] at o1; exact o1
  clear o1 b1 HJ
  obtain ⟨zc0, zf0⟩ := blk_cell A1 0 (x := .bool false) rfl
  obtain ⟨zc1, zf1⟩ := blk_cell A1 1 (x := .int .i64 0) rfl
  obtain ⟨zc2, zf2⟩ := blk_cell A1 2 (x := .int .i64 0) rfl
  obtain ⟨zc3, zf3⟩ := blk_cell A1 3 (x := .int .i64 0) rfl
  obtain ⟨zc4, zf4⟩ := blk_cell A1 4 (x := .int .i64 0) rfl
  obtain ⟨zc5, zf5⟩ := blk_cell A1 5 (x := .string ⟨#[]⟩) rfl
  obtain ⟨zc6, zf6⟩ := blk_cell A1 6 (x := .slice none 0 0) rfl
  have AF : (((((((w1.setCell ⟨w.heap.size, 0, none⟩ (.bool RX.nl)).setCell ⟨w.heap.size, 1, none⟩ (.int .i64 RX.c)).setCell ⟨w.heap.size, 2, none⟩ (.int .i64 RX.st)).setCell ⟨w.heap.size, 3, none⟩ (.int .i64 RX.k)).setCell ⟨w.heap.size, 4, none⟩ (.int .i64 RX.l)).setCell ⟨w.heap.size, 5, none⟩ (.string RX.n)).setCell ⟨w.heap.size, 6, none⟩ (.slice a1 RX.rs.length cap1)).heap[w.heap.size]? = some (.cells #[.bool RX.nl, .int .i64 RX.c, .int .i64 RX.st, .int .i64 RX.k, .int .i64 RX.l, .string RX.n, .slice a1 RX.rs.length cap1] 52 (0, 0)) := (blk_set (blk_set (blk_set (blk_set (blk_set (blk_set (blk_set A1 0 (.bool RX.nl)) 1 (.int .i64 RX.c)) 2 (.int .i64 RX.st)) 3 (.int .i64 RX.k)) 4 (.int .i64 RX.l)) 5 (.string RX.n)) 6 (.slice a1 RX.rs.length cap1))
  have GF : Hid (Below w.heap.size w (((((((w1.setCell ⟨w.heap.size, 0, none⟩ (.bool RX.nl)).setCell ⟨w.heap.size, 1, none⟩ (.int .i64 RX.c)).setCell ⟨w.heap.size, 2, none⟩ (.int .i64 RX.st)).setCell ⟨w.heap.size, 3, none⟩ (.int .i64 RX.k)).setCell ⟨w.heap.size, 4, none⟩ (.int .i64 RX.l)).setCell ⟨w.heap.size, 5, none⟩ (.string RX.n)).setCell ⟨w.heap.size, 6, none⟩ (.slice a1 RX.rs.length cap1))) := (Below.setCell (Below.setCell (Below.setCell (Below.setCell (Below.setCell (Below.setCell (Below.setCell G1 (p := ⟨w.heap.size, 0, none⟩) (Nat.le_refl _) (.bool RX.nl)) (p := ⟨w.heap.size, 1, none⟩) (Nat.le_refl _) (.int .i64 RX.c)) (p := ⟨w.heap.size, 2, none⟩) (Nat.le_refl _) (.int .i64 RX.st)) (p := ⟨w.heap.size, 3, none⟩) (Nat.le_refl _) (.int .i64 RX.k)) (p := ⟨w.heap.size, 4, none⟩) (Nat.le_refl _) (.int .i64 RX.l)) (p := ⟨w.heap.size, 5, none⟩) (Nat.le_refl _) (.string RX.n)) (p := ⟨w.heap.size, 6, none⟩) (Nat.le_refl _) (.slice a1 RX.rs.length cap1))
  have OF : Hid (OwnR (((((((w1.setCell ⟨w.heap.size, 0, none⟩ (.bool RX.nl)).setCell ⟨w.heap.size, 1, none⟩ (.int .i64 RX.c)).setCell ⟨w.heap.size, 2, none⟩ (.int .i64 RX.st)).setCell ⟨w.heap.size, 3, none⟩ (.int .i64 RX.k)).setCell ⟨w.heap.size, 4, none⟩ (.int .i64 RX.l)).setCell ⟨w.heap.size, 5, none⟩ (.string RX.n)).setCell ⟨w.heap.size, 6, none⟩ (.slice a1 RX.rs.length cap1)) w.heap.size (.slice a1 RX.rs.length cap1) RX.rs) := (O1.out.mono (by omega)).kept (fun g hg => by have := (O1.out.lt g hg).1; exact ((blk_far (by omega) 6 (.slice a1 RX.rs.length cap1)).trans ((blk_far (by omega) 5 (.string RX.n)).trans ((blk_far (by omega) 4 (.int .i64 RX.l)).trans ((blk_far (by omega) 3 (.int .i64 RX.k)).trans ((blk_far (by omega) 2 (.int .i64 RX.st)).trans ((blk_far (by omega) 1 (.int .i64 RX.c)).trans (blk_far (by omega) 0 (.bool RX.nl)))))))))
  go_wp2_with fail
  generalize (((((((w1.setCell ⟨w.heap.size, 0, none⟩ (.bool RX.nl)).setCell ⟨w.heap.size, 1, none⟩ (.int .i64 RX.c)).setCell ⟨w.heap.size, 2, none⟩ (.int .i64 RX.st)).setCell ⟨w.heap.size, 3, none⟩ (.int .i64 RX.k)).setCell ⟨w.heap.size, 4, none⟩ (.int .i64 RX.l)).setCell ⟨w.heap.size, 5, none⟩ (.string RX.n)).setCell ⟨w.heap.size, 6, none⟩ (.slice a1 RX.rs.length cap1)) = wf at AF GF OF ⊢
  have d0 := (blk_cell AF 0 (x := .bool RX.nl) rfl).1
  have d1 := (blk_cell AF 1 (x := .int .i64 RX.c) rfl).1
  have d2 := (blk_cell AF 2 (x := .int .i64 RX.st) rfl).1
  have d3 := (blk_cell AF 3 (x := .int .i64 RX.k) rfl).1
  have d4 := (blk_cell AF 4 (x := .int .i64 RX.l) rfl).1
  have d5 := (blk_cell AF 5 (x := .string RX.n) rfl).1
  have d6 := (blk_cell AF 6 (x := .slice a1 RX.rs.length cap1) rfl).1
  refine bodyPost_ret (v := .tuple #[.agg #[.bool RX.nl, .int .i64 RX.c, .int .i64 RX.st, .int .i64 RX.k, .int .i64 RX.l, .string RX.n, .slice a1 RX.rs.length cap1], .int .i64 RC]) (by simp [results, Try.results25, go_sem, d0, d1, d2, d3, d4, d5, d6]) rfl ⟨_, rfl, OF.out, GF.out⟩
end Go.Proofs.Ytdeologdmdimoaa.Tkb
