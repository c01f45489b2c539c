/- Texts put together: Cb2, PuMsg, SpMsg, EqMsg, Rc. -/
import Derived.Test.YtkfiahemgdppfaaGreatDoorM13
import Derived.Test.YtkfiahemgdppfaaGreatDoorM11
import Derived.Test.YtkfiahemgdppfaaGreatDoorM10
import Derived.Test.YtkfiahemgdppfaaGreatDoorM12
/- Certificates' bytes, of the program and of the specification. -/
namespace Go.Proofs.YtkfiahemgdppfaaGreatDoor.Cb
open Go.RowKit Go.Proofs.YtkfiahemgdppfaaGreatDoor.Sl Go.Proofs.YtkfiahemgdppfaaGreatDoor.By Go.Proofs.YtkfiahemgdppfaaGreatDoor.Ap Go.Proofs.YtkfiahemgdppfaaGreatDoor.Rq Go.Proofs.YtkfiahemgdppfaaGreatDoor.Ms Go.Proofs.YtkfiahemgdppfaaGreatDoor.Mp Go.Proofs.YtkfiahemgdppfaaGreatDoor.Rp Go.Proofs.YtkfiahemgdppfaaGreatDoor.Lb Go.Proofs.YtkfiahemgdppfaaGreatDoor.Gm
open Go.Proofs.YtkfiahemgdppfaaGreatDoor.Ty (RowT tnth)
open Go.Proofs.YtkfiahemgdppfaaGreatDoor.Tl (OwnS)
open Go.Proofs.YtkfiahemgdppfaaGreatDoor.Rg (RowG RowG.slice RowG.at lt_at mem_at blk_cell bel_new)

theorem info_s : (Tryz.prog.info? 9).map (fun i => (i.zero, i.size, i.bytes)) = some (some (.string ⟨#[]⟩), 1, 16) := by kernel_rfl
theorem tnth_cases (bd : ByteArray) (ms : List Mg) (j : Nat) (hj : j < (cTs bd ms).length) : tnth (cTs bd ms) j = bd ∨ ∃ x ∈ ms, tnth (cTs bd ms) j = mTx x := by
  unfold tnth cTs at *
  cases j with
  | zero => exact .inl rfl
  | succ k =>
    have hk : k < ms.length := by simpa using hj
    refine .inr ⟨ms[k], List.getElem_mem hk, ?_⟩
    rw [List.getD_cons_succ, List.getD_eq_getElem?_getD, List.getElem?_map, List.getElem?_eq_getElem hk]
    rfl
theorem cTs_len (bd : ByteArray) (ms : List Mg) : (cTs bd ms).length = ms.length + 1 := by unfold cTs; simp
theorem lenTo_le (bd : ByteArray) (ms : List Mg) (h : cfB ms = true) (hb : bd.size ≤ 20000) : ∀ k, k ≤ (cTs bd ms).length → lenTo (cTs bd ms) k ≤ 1 + 20002 * k ∧ (1 ≤ k → lenTo (cTs bd ms) k ≤ 1 + 20002 + 49 * (k - 1))
  | 0, _ => ⟨by unfold lenTo; omega, fun h => by omega⟩
  | k + 1, hk => by
    have ih := lenTo_le bd ms h hb k (by omega)
    have hs : (tnth (cTs bd ms) k).size ≤ 20000 ∧ (1 ≤ k → (tnth (cTs bd ms) k).size = 47) := by
      cases k with
      | zero => exact ⟨hb, fun h => by omega⟩
      | succ q =>
        have hq : q < ms.length := by have := cTs_len bd ms; omega
        have e : tnth (cTs bd ms) (q + 1) = mTx ms[q] := by
          unfold tnth cTs
          rw [List.getD_cons_succ, List.getD_eq_getElem?_getD, List.getElem?_map, List.getElem?_eq_getElem hq]
          rfl
        have := (ok_size ((cf_all h).2 _ (List.getElem_mem hq))).1
        rw [e]
        omega
    unfold lenTo
    refine ⟨by omega, fun _ => ?_⟩
    by_cases hk0 : k = 0
    · subst hk0
      have : lenTo (cTs bd ms) 0 = 1 := rfl
      omega
    · have h1 := ih.2 (by omega)
      have h2 := hs.2 (by omega)
      omega
theorem lenTo_ok (bd : ByteArray) (ms : List Mg) (h : cfB ms = true) (hb : bd.size ≤ 20000) (k : Nat) (hk : k ≤ (cTs bd ms).length) : lenTo (cTs bd ms) k ≤ 65536 := by
  have h1 := lenTo_le bd ms h hb k hk
  have h2 := (cf_all h).1
  have h3 := cTs_len bd ms
  by_cases hk0 : k = 0
  · omega
  · have := h1.2 (by omega)
    omega
theorem c_good (bd : ByteArray) (ms : List Mg) (h : cfB ms = true) (hb : bd.size ≤ 20000) : cCode bd ms = 0 ∧ cOut bd ms = listTo (cTs bd ms) (cTs bd ms).length := by
  have h2 := (cf_all h).1
  have h3 := cTs_len bd ms
  have := lb_good (cTs bd ms) (by omega) (fun j hj => by
    unfold bad
    rw [Bool.or_eq_false_iff, decide_eq_false_iff_not, decide_eq_false_iff_not]
    refine ⟨?_, by have := lenTo_ok bd ms h hb (j + 1) (by omega); omega⟩
    rcases tnth_cases bd ms j hj with e | ⟨x, hx, e⟩
    · rw [e]; omega
    · rw [e, (ok_size ((cf_all h).2 x hx)).1]; omega)
  unfold cCode cOut
  rw [h]
  exact this
theorem c_big (bd : ByteArray) (ms : List Mg) (hb : 20000 < bd.size) : cCode bd ms = 1 ∧ cOut bd ms = [] := by
  unfold cCode cOut
  cases h : cfB ms with
  | false => exact ⟨rfl, rfl⟩
  | true =>
    have h2 := (cf_all h).1
    have h3 := cTs_len bd ms
    have e0 : tnth (cTs bd ms) 0 = bd := rfl
    obtain ⟨h4, h5⟩ := lb_bad (cTs bd ms) 0 (by omega) (by omega) (fun j hj => by omega) (by unfold bad; rw [e0, decide_eq_true hb]; rfl)
    refine ⟨?_, h5⟩
    show lbCode (cTs bd ms) = 1
    rw [h4]
    unfold cd
    rw [e0, if_pos hb]
theorem c_no (bd : ByteArray) (ms : List Mg) (h : cfB ms = false) : cCode bd ms = 1 ∧ cOut bd ms = [] := by
  unfold cCode cOut; rw [h]; exact ⟨rfl, rfl⟩
end Go.Proofs.YtkfiahemgdppfaaGreatDoor.Cb

/- A message's bytes, as impl takes them: in plain lists. -/
namespace Go.Proofs.YtkfiahemgdppfaaGreatDoor.Om
open Go.RowKit Go.Proofs.YtkfiahemgdppfaaGreatDoor.Sl Go.Proofs.YtkfiahemgdppfaaGreatDoor.By Go.Proofs.YtkfiahemgdppfaaGreatDoor.Ap Go.Proofs.YtkfiahemgdppfaaGreatDoor.Rq Go.Proofs.YtkfiahemgdppfaaGreatDoor.Rr Go.Proofs.YtkfiahemgdppfaaGreatDoor.Of

theorem tkS_false {n : Nat} {xs : List Int} {sh : Bool} : tkS n xs sh = false ↔ sh = false ∧ n ≤ xs.length := by
  unfold tkS; simp
theorem txtS_false {n : Nat} {xs : List Int} {sh : Bool} : txtS n xs sh = false ↔ (sh = false ∧ n ≤ xs.length) ∧ txtN n xs ≤ (tkR n xs).length := by
  unfold txtS; rw [tkS_false, tkS_false]
def mD (xs : List Int) : Nat := (nth xs 4).toNat
def mN (xs : List Int) : Nat := (beN ((xs.drop (5 + mD xs)).take 2)).toNat
theorem tkR_yes {n : Nat} {xs : List Int} (h : n ≤ xs.length) : tkR n xs = xs.drop n := (tk_yes h).2.1
theorem tkB_yes {n : Nat} {xs : List Int} (h : n ≤ xs.length) : tkB n xs = xs.take n := (tk_yes h).1
theorem four (xs : List Int) (h : 4 ≤ xs.length) : tkR 1 xs = xs.drop 1 ∧ tkR 1 (tkR 1 xs) = xs.drop 2 ∧ tkR 1 (tkR 1 (tkR 1 xs)) = xs.drop 3 ∧ mg3 xs = xs.drop 4 := by
  have a1 := tkR_yes (n := 1) (xs := xs) (by omega)
  have a2 := tkR_yes (n := 1) (xs := xs.drop 1) (by rw [List.length_drop]; omega)
  have a3 := tkR_yes (n := 1) (xs := xs.drop 2) (by rw [List.length_drop]; omega)
  have a4 := tkR_yes (n := 1) (xs := xs.drop 3) (by rw [List.length_drop]; omega)
  rw [List.drop_drop] at a2 a3 a4
  refine ⟨a1, by rw [a1, a2], by rw [a1, a2, a3], by unfold mg3; rw [a1, a2, a3, a4]⟩
theorem txtN1 (xs : List Int) (h : 5 ≤ xs.length) : txtN 1 (xs.drop 4) = mD xs ∧ tkR 1 (xs.drop 4) = xs.drop 5 := by
  have hl : 1 ≤ (xs.drop 4).length := by rw [List.length_drop]; omega
  unfold txtN mD
  rw [tkB_yes hl, be1 (by omega), nth_drop, tkR_yes hl, List.drop_drop]
  exact ⟨rfl, rfl⟩
theorem txtN2 (xs : List Int) (h : 7 + mD xs ≤ xs.length) : txtN 2 (xs.drop (5 + mD xs)) = mN xs ∧ tkR 2 (xs.drop (5 + mD xs)) = xs.drop (7 + mD xs) := by
  have hl : 2 ≤ (xs.drop (5 + mD xs)).length := by rw [List.length_drop]; omega
  unfold txtN mN
  rw [tkB_yes hl, tkR_yes hl, List.drop_drop]
  exact ⟨rfl, by rw [show 5 + mD xs + 2 = 7 + mD xs by omega]⟩
theorem msg_open (xs : List Int) (hl : 15 + mD xs + mN xs ≤ xs.length) :
    beN (tkB 1 xs) = nth xs 0 ∧ beN (tkB 1 (tkR 1 xs)) = nth xs 1 ∧ beN (tkB 1 (tkR 1 (tkR 1 xs))) = nth xs 2 ∧ beN (tkB 1 (tkR 1 (tkR 1 (tkR 1 xs)))) = nth xs 3 ∧
      mgDg xs = strOfNums ((xs.drop 5).take (mD xs)) ∧ mgBd xs = strOfNums ((xs.drop (7 + mD xs)).take (mN xs)) ∧ mgMc xs = strOfNums ((xs.drop (7 + mD xs + mN xs)).take 8) ∧ mgRest xs = xs.drop (15 + mD xs + mN xs) ∧ mgSh xs false = false := by
  obtain ⟨a1, a2, a3, a4⟩ := four xs (by omega)
  obtain ⟨b1, b2⟩ := txtN1 xs (by omega)
  obtain ⟨c1, c2⟩ := txtN2 xs (by omega)
  have h5 : mD xs ≤ (xs.drop 5).length := by rw [List.length_drop]; omega
  have r1 : txtR 1 (mg3 xs) = xs.drop (5 + mD xs) := by unfold txtR; rw [a4, b1, b2, tkR_yes h5, List.drop_drop]
  have h7 : mN xs ≤ (xs.drop (7 + mD xs)).length := by rw [List.length_drop]; omega
  have r2 : txtR 2 (txtR 1 (mg3 xs)) = xs.drop (7 + mD xs + mN xs) := by rw [r1]; unfold txtR; rw [c1, c2, tkR_yes h7, List.drop_drop]
  have h8 : 8 ≤ (xs.drop (7 + mD xs + mN xs)).length := by rw [List.length_drop]; omega
  refine ⟨?_, ?_, ?_, ?_, ?_, ?_, ?_, ?_, ?_⟩
  · rw [tkB_yes (by omega), be1 (by omega)]
  · rw [a1, tkB_yes (by rw [List.length_drop]; omega), be1 (by rw [List.length_drop]; omega), nth_drop]
  · rw [a2, tkB_yes (by rw [List.length_drop]; omega), be1 (by rw [List.length_drop]; omega), nth_drop]
  · rw [a3, tkB_yes (by rw [List.length_drop]; omega), be1 (by rw [List.length_drop]; omega), nth_drop]
  · unfold mgDg txtB; rw [a4, b1, b2, tkB_yes h5]
  · unfold mgBd txtB; rw [r1, c1, c2, tkB_yes h7]
  · unfold mgMc; rw [r2, tkB_yes h8]
  · unfold mgRest; rw [r2, tkR_yes h8, List.drop_drop, show 7 + mD xs + mN xs + 8 = 15 + mD xs + mN xs by omega]
  · unfold mgSh
    rw [tkS_false, r2, txtS_false, r1, txtS_false, tkS_false, tkS_false, tkS_false, tkS_false, a3, a2, a1, a4, b1, b2, c1, c2]
    simp only [List.length_drop]
    exact ⟨⟨⟨⟨⟨⟨⟨⟨⟨trivial, by omega⟩, by omega⟩, by omega⟩, by omega⟩, by omega⟩, by rw [List.length_drop] at h5; omega⟩, by omega⟩, by rw [List.length_drop] at h7; omega⟩, by omega⟩
theorem msg_inv (xs : List Int) (h : mgSh xs false = false) : 15 + mD xs + mN xs ≤ xs.length := by
  unfold mgSh at h
  rw [tkS_false, txtS_false, txtS_false, tkS_false, tkS_false, tkS_false, tkS_false] at h
  obtain ⟨⟨⟨⟨⟨⟨⟨⟨⟨_, l1⟩, l2⟩, l3⟩, l4⟩, m1⟩, m2⟩, m3⟩, m4⟩, m5⟩ := h
  have t1 := tkR_yes l1
  rw [t1] at l2 l3 l4
  have t2 := tkR_yes l2
  rw [t2] at l3 l4
  have t3 := tkR_yes l3
  rw [t3] at l4
  simp only [List.length_drop] at l2 l3 l4
  obtain ⟨a1, a2, a3, a4⟩ := four xs (by omega)
  rw [a4] at m1 m2
  rw [List.length_drop] at m1
  obtain ⟨b1, b2⟩ := txtN1 xs (by omega)
  rw [b1, b2] at m2
  have r1 : txtR 1 (mg3 xs) = xs.drop (5 + mD xs) := by unfold txtR; rw [a4, b1, b2, tkR_yes m2, List.drop_drop]
  rw [List.length_drop] at m2
  rw [r1] at m3 m4 m5
  rw [List.length_drop] at m3
  obtain ⟨c1, c2⟩ := txtN2 xs (by omega)
  rw [c1, c2] at m4
  have r2 : txtR 2 (xs.drop (5 + mD xs)) = xs.drop (7 + mD xs + mN xs) := by unfold txtR; rw [c1, c2, tkR_yes m4, List.drop_drop]
  rw [r2, List.length_drop] at m5
  rw [List.length_drop] at m4
  omega
end Go.Proofs.YtkfiahemgdppfaaGreatDoor.Om

/- The specification's ReadMessage. -/
namespace Go.Proofs.YtkfiahemgdppfaaGreatDoor.Om
open Go.RowKit Go.Proofs.YtkfiahemgdppfaaGreatDoor.Sl Go.Proofs.YtkfiahemgdppfaaGreatDoor.By Go.Proofs.YtkfiahemgdppfaaGreatDoor.Ap Go.Proofs.YtkfiahemgdppfaaGreatDoor.Rq Go.Proofs.YtkfiahemgdppfaaGreatDoor.Rr Go.Proofs.YtkfiahemgdppfaaGreatDoor.Of Go.Proofs.YtkfiahemgdppfaaGreatDoor.Ms

theorem fin7 {w : World} {A B : Array Value} (h : A = B) : ((w.alloc (.cells zmsg 26)).alloc (.cells A 26)).drew.heap[w.heap.size]? = some (.cells zmsg 26 (0, 0)) ∧
    ((w.alloc (.cells zmsg 26)).alloc (.cells A 26)).drew.heap[w.heap.size + 1]? = some (.cells B 26 (0, 0)) ∧ Below w.heap.size w ((w.alloc (.cells zmsg 26)).alloc (.cells A 26)).drew := by
  subst h
  refine ⟨(Below.heap_alloc _ _ _ (by simp)).trans (blk_new _ _ _), ?_, (((Below.refl _ _).alloc (Nat.le_refl _) _).alloc (by simp) _).drew⟩
  have := blk_new (w.alloc (.cells zmsg 26)) A 26
  rw [size_new] at this
  exact this

set_option maxRecDepth 100000 in
set_option maxHeartbeats 1600000 in
theorem l02ReadMessage_yes (s : ByteArray) (w : World) (d N : Nat) (hs : s.size ≤ 65536) (h7 : 4 < s.size) (hd : (s[4]'h7).toNat = d) (hN : beN (bys (s.extract (5 + d) (5 + d + 2))) = (N : Int)) (hq : s.size = 5 + d + 2 + N + 8) :
    Calls Tryz.prog 105 #[.string s] w fun e w' => e = .returned (.tuple #[.agg #[.int .i64 (nth (bys s) 0), .int .i64 (nth (bys s) 1), .int .i64 (nth (bys s) 2), .int .i64 (nth (bys s) 3), .string (s.extract 5 (5 + d)), .string (s.extract (5 + d + 2) (5 + d + 2 + N)), .string (s.extract (5 + d + 2 + N) s.size)], .bool (msgB (nth (bys s) 0) (nth (bys s) 1) (nth (bys s) 2) (nth (bys s) 3) (s.extract 5 (5 + d)) (s.extract (5 + d + 2) (5 + d + 2 + N)) (s.extract (5 + d + 2 + N) s.size))]) ∧ Below w.heap.size w w' := by
  have h6 : (7 : Int) ≤ (s.size : Int) := by omega
  have hd1 : (7 : Int) + (d : Int) ≤ (s.size : Int) := by omega
  have hd8 : d < 256 := by rw [← hd]; exact (s[4]'h7).toNat_lt
  have k4 : (4 : Int) < (s.size : Int) := by omega
  have k1 : (1 : Int) < (s.size : Int) := by omega
  have k2 : (2 : Int) < (s.size : Int) := by omega
  have k3 : (3 : Int) < (s.size : Int) := by omega
  have k5 : (5 : Int) + (d : Int) ≤ (s.size : Int) := by omega
  have k6 : (5 : Int) + (d : Int) + 2 + (N : Int) ≤ (s.size : Int) := by omega
  have k7 : (0 : Int) ≤ (5 : Int) + (d : Int) + 2 := by omega
  have k8 : (5 : Int) + (d : Int) + 2 ≤ (5 : Int) + (d : Int) + 2 + (N : Int) := by omega
  have k9 : (0 : Int) ≤ (5 : Int) + (d : Int) + 2 + (N : Int) := by omega
  have k10 : (5 : Int) ≤ (5 : Int) + (d : Int) := by omega
  have i0 : 0 < s.size := by omega
  have i1 : 1 < s.size := by omega
  have i2 : 2 < s.size := by omega
  have i3 : 3 < s.size := by omega
  have wA : IntKind.i64.wrap ((5 : Int) + (d : Int) + 2) = (5 : Int) + (d : Int) + 2 := by rw [IntKind.wrap_i64]; omega
  have wB : IntKind.i64.wrap ((5 : Int) + (d : Int) + 2 + (N : Int)) = (5 : Int) + (d : Int) + 2 + (N : Int) := by rw [IntKind.wrap_i64]; omega
  have hne : ((s.size : Int) != (5 : Int) + (d : Int) + 2 + (N : Int) + 8) = false := by simp; omega
  have hs' : (s.size : Int) ≤ 65536 := by omega
  have hNs : (N : Int) ≤ 65536 := by omega
  have e1 := ext_small s (5 + d) (5 + d + 2) (by omega)
  have E1 : Hid (∀ _ : Unit, (s.extract (5 + d) (5 + d + 2)).size ≤ 4) := fun _ => e1
  have HNN : Hid (beN (bys (s.extract (5 + d) (5 + d + 2))) = (N : Int)) := hN
  have HV : Hid ((#[.int .i64 (IntKind.i64.wrap ((s[0]'i0).toNat : Int)), .int .i64 (IntKind.i64.wrap ((s[1]'i1).toNat : Int)), .int .i64 (IntKind.i64.wrap ((s[2]'i2).toNat : Int)), .int .i64 (IntKind.i64.wrap ((s[3]'i3).toNat : Int)), .string (s.extract 5 (5 + d)), .string (s.extract (5 + d + 2) (5 + d + 2 + N)), .string (s.extract (5 + d + 2 + N) s.size)] : Array Value) = #[.int .i64 (nth (bys s) 0), .int .i64 (nth (bys s) 1), .int .i64 (nth (bys s) 2), .int .i64 (nth (bys s) 3), .string (s.extract 5 (5 + d)), .string (s.extract (5 + d + 2) (5 + d + 2 + N)), .string (s.extract (5 + d + 2 + N) s.size)]) := by
    show _ = _
    have b0 := (s[0]'i0).toNat_lt
    have b1 := (s[1]'i1).toNat_lt
    have b2 := (s[2]'i2).toNat_lt
    have b3 := (s[3]'i3).toNat_lt
    rw [bys_at s 0 i0, bys_at s 1 i1, bys_at s 2 i2, bys_at s 3 i3, Of.wrap_small _ b0, Of.wrap_small _ b1, Of.wrap_small _ b2, Of.wrap_small _ b3]
  clear e1 hN hq
  go_enter Tryz.func105, Tryz.ntmps105
  go_wp2_with fail
  refine (l02Of_any (s.extract (5 + d) (5 + d + 2)) _ (E1.out ())).mono ?_
  rintro e w' ⟨rfl, rfl⟩
  rw [HNN.out]
  go_upto_region 7 with fail
  go_cut [6] (fun s6 wx => s6 = .pointer (some ⟨w.heap.size + 1, 0, none⟩) ∧ wx.heap[w.heap.size]? = some (.cells zmsg 26 (0, 0)) ∧ wx.heap[w.heap.size + 1]? = some (.cells #[.int .i64 (nth (bys s) 0), .int .i64 (nth (bys s) 1), .int .i64 (nth (bys s) 2), .int .i64 (nth (bys s) 3), .string (s.extract 5 (5 + d)), .string (s.extract (5 + d + 2) (5 + d + 2 + N)), .string (s.extract (5 + d + 2 + N) s.size)] 26 (0, 0)) ∧ Below w.heap.size w wx)
  case first =>
    refine wp_region_any (by kernel_rfl) ?_
    change wpAny _ _ _ _ _ _ _ (World.drew _)
    refine wpAny_take (i := 0) (v := ?v1) rfl (by kernel_rfl) (by kernel_rfl) (by kernel_rfl) (fun _ _ _ h => h) (Or.inl ⟨by rfl, ?h1⟩) ?r1
    case h1 => intro wz; go_simp; try (with_reducible rfl)
    refine wpAny_take (i := 1) (v := ?v2) rfl (by kernel_rfl) (by kernel_rfl) (by kernel_rfl) (fun _ _ _ h => h) (Or.inl ⟨by rfl, ?h2⟩) ?r2
    case h2 => intro wz; go_simp; try (with_reducible rfl)
    refine wpAny_take (i := 2) (v := ?v3) rfl (by kernel_rfl) (by kernel_rfl) (by kernel_rfl) (fun _ _ _ h => h) (Or.inl ⟨by rfl, ?h3⟩) ?r3
    case h3 => intro wz; go_simp; try (with_reducible rfl)
    refine wpAny_take (i := 3) (v := ?v4) rfl (by kernel_rfl) (by kernel_rfl) (by kernel_rfl) (fun _ _ _ h => h) (Or.inl ⟨by rfl, ?h4⟩) ?r4
    case h4 => intro wz; go_simp; try (with_reducible rfl)
    refine wpAny_take (i := 4) (v := ?v5) rfl (by kernel_rfl) (by kernel_rfl) (by kernel_rfl) (fun _ _ _ h => h) (Or.inl ⟨by rfl, ?h5⟩) ?r5
    case h5 => intro wz; go_simp; try (with_reducible rfl)
    refine wpAny_take (i := 5) (v := ?v6) rfl (by kernel_rfl) (by kernel_rfl) (by kernel_rfl) (fun _ _ _ h => h) (Or.inl ⟨by rfl, ?h6⟩) ?r6
    case h6 => intro wz; go_simp; try (with_reducible rfl)
    refine wpAny_take (i := 6) (v := ?v7) rfl (by kernel_rfl) (by kernel_rfl) (by kernel_rfl) (fun _ _ _ h => h) (Or.inl ⟨by rfl, ?h7⟩) ?r7
    case h7 => intro wz; go_simp; try (with_reducible rfl)
    refine wpAny_take (i := 7) (v := ?v8) rfl (by kernel_rfl) (by kernel_rfl) (by kernel_rfl) (fun _ _ _ h => h) (Or.inl ⟨by rfl, ?h8⟩) ?r8
    case h8 => intro wz; go_simp; try (with_reducible rfl)
    refine wpAny_take (i := 8) (v := ?v9) rfl (by kernel_rfl) (by kernel_rfl) (by kernel_rfl) (fun _ _ _ h => h) (Or.inl ⟨by rfl, ?h9⟩) ?r9
    case h9 => intro wz; go_simp; try (with_reducible rfl)
    refine wpAny_take (i := 9) (v := ?v10) rfl (by kernel_rfl) (by kernel_rfl) (by kernel_rfl) (fun _ _ _ h => h) (Or.inl ⟨by rfl, ?h10⟩) ?r10
    case h10 => intro wz; go_simp; try (with_reducible rfl)
    refine wpAny_take (i := 10) (v := ?v11) rfl (by kernel_rfl) (by kernel_rfl) (by kernel_rfl) (fun _ _ _ h => h) (Or.inl ⟨by rfl, ?h11⟩) ?r11
    case h11 => intro wz; go_simp; try (with_reducible rfl)
    refine wpAny_take (i := 11) (v := ?v12) rfl (by kernel_rfl) (by kernel_rfl) (by kernel_rfl) (fun _ _ _ h => h) (Or.inl ⟨by rfl, ?h12⟩) ?r12
    case h12 => intro wz; go_simp; try (with_reducible rfl)
    refine wpAny_take (i := 12) (v := ?v13) rfl (by kernel_rfl) (by kernel_rfl) (by kernel_rfl) (fun _ _ _ h => h) (Or.inl ⟨by rfl, ?h13⟩) ?r13
    case h13 => intro wz; go_simp; try (with_reducible rfl)
    refine wpAny_take (i := 13) (v := ?v14) rfl (by kernel_rfl) (by kernel_rfl) (by kernel_rfl) (fun _ _ _ h => h) (Or.inl ⟨by rfl, ?h14⟩) ?r14
    case h14 => intro wz; go_simp; try (with_reducible rfl)
    refine wpAny_take (i := 14) (v := ?v15) rfl (by kernel_rfl) (by kernel_rfl) (by kernel_rfl) (fun _ _ _ h => h) (Or.inl ⟨by rfl, ?h15⟩) ?r15
    case h15 => intro wz; go_simp; try (with_reducible rfl)
    refine wpAny_take (i := 15) (v := ?v16) rfl (by kernel_rfl) (by kernel_rfl) (by kernel_rfl) (fun _ _ _ h => h) (Or.inl ⟨by rfl, ?h16⟩) ?r16
    case h16 => intro wz; go_simp; try (with_reducible rfl)
    refine wpAny_take (i := 16) (v := ?v17) rfl (by kernel_rfl) (by kernel_rfl) (by kernel_rfl) (fun _ _ _ h => h) (Or.inl ⟨by rfl, ?h17⟩) ?r17
    case h17 => intro wz; go_simp; try (with_reducible rfl)
    refine wpAny_take (i := 17) (v := ?v18) rfl (by kernel_rfl) (by kernel_rfl) (by kernel_rfl) (fun _ _ _ h => h) (Or.inl ⟨by rfl, ?h18⟩) ?r18
    case h18 => intro wz; go_simp; try (with_reducible rfl)
    refine wpAny_take (i := 18) (v := ?v19) rfl (by kernel_rfl) (by kernel_rfl) (by kernel_rfl) (fun _ _ _ h => h) (Or.inl ⟨by rfl, ?h19⟩) ?r19
    case h19 => intro wz; go_simp; try (with_reducible rfl)
    refine wpAny_take (i := 19) (v := ?v20) rfl (by kernel_rfl) (by kernel_rfl) (by kernel_rfl) (fun _ _ _ h => h) (Or.inl ⟨by rfl, ?h20⟩) ?r20
    case h20 => intro wz; go_simp; try (with_reducible rfl)
    refine wpAny_take (i := 20) (v := ?v21) rfl (by kernel_rfl) (by kernel_rfl) (by kernel_rfl) (fun _ _ _ h => h) (Or.inl ⟨by rfl, ?h21⟩) ?r21
    case h21 => intro wz; go_simp; try (with_reducible rfl)
    refine wpAny_take (i := 21) (v := ?v22) rfl (by kernel_rfl) (by kernel_rfl) (by kernel_rfl) (fun _ _ _ h => h) (Or.inl ⟨by rfl, ?h22⟩) ?r22
    case h22 => intro wz; go_simp; try (with_reducible rfl)
    refine wpAny_take (i := 22) (v := ?v23) rfl (by kernel_rfl) (by kernel_rfl) (by kernel_rfl) (fun _ _ _ h => h) (Or.inl ⟨by rfl, ?h23⟩) ?r23
    case h23 => intro wz; go_simp; try (with_reducible rfl)
    refine wpAny_take (i := 23) (v := ?v24) rfl (by kernel_rfl) (by kernel_rfl) (by kernel_rfl) (fun _ _ _ h => h) (Or.inl ⟨by rfl, ?h24⟩) ?r24
    case h24 => intro wz; go_simp; try (with_reducible rfl)
    refine wpAny_take (i := 24) (v := ?v25) rfl (by kernel_rfl) (by kernel_rfl) (by kernel_rfl) (fun _ _ _ h => h) (Or.inl ⟨by rfl, ?h25⟩) ?r25
    case h25 => intro wz; go_simp; try (with_reducible rfl)
    refine wpAny_take (i := 25) (v := ?v26) rfl (by kernel_rfl) (by kernel_rfl) (by kernel_rfl) (fun _ _ _ h => h) (Or.inl ⟨by rfl, ?h26⟩) ?r26
    case h26 => intro wz; go_simp; try (with_reducible rfl)
    refine wpAny_take (i := 26) (v := ?v27) rfl (by kernel_rfl) (by kernel_rfl) (by kernel_rfl) (fun _ _ _ h => h) (Or.inl ⟨by rfl, ?h27⟩) ?r27
    case h27 => intro wz; go_simp; try (with_reducible rfl)
    refine wpAny_take (i := 27) (v := ?v28) rfl (by kernel_rfl) (by kernel_rfl) (by kernel_rfl) (fun _ _ _ h => h) (Or.inl ⟨by rfl, ?h28⟩) ?r28
    case h28 => intro wz; go_simp; try (with_reducible rfl)
    refine wpAny_take (i := 28) (v := ?v29) rfl (by kernel_rfl) (by kernel_rfl) (by kernel_rfl) (fun _ _ _ h => h) (Or.inl ⟨by rfl, ?h29⟩) ?r29
    case h29 => intro wz; go_simp; try (with_reducible rfl)
    refine wpAny_take (i := 29) (v := ?v30) rfl (by kernel_rfl) (by kernel_rfl) (by kernel_rfl) (fun _ _ _ h => h) (Or.inl ⟨by rfl, ?h30⟩) ?r30
    case h30 => intro wz; go_simp; try (with_reducible rfl)
    refine wpAny_ready (rs := [30]) (by kernel_rfl) (by simp) ?_
    refine AllReady.cons rfl (fun K hK => ?_) AllReady.nil
    go_simp
    refine hK _ _ ?_
    clear hK K
    refine wpAny_ready (rs := [31]) (by kernel_rfl) (by simp) ?_
    refine AllReady.cons rfl (fun K hK => ?_) AllReady.nil
    go_simp
    refine hK _ _ ?_
    clear hK K
    refine wpAny_done (by kernel_rfl) ?_ _
    go_wp2_with fail
    go_meet
    exact ⟨rfl, fin7 HV.out⟩
  case rest =>
  obtain ⟨rfl, A1, X1, G1⟩ := hcut
  have xc0 := (blk_cell X1 0 (x := .int .i64 (nth (bys s) 0)) rfl).1
  have xc1 := (blk_cell X1 1 (x := .int .i64 (nth (bys s) 1)) rfl).1
  have xc2 := (blk_cell X1 2 (x := .int .i64 (nth (bys s) 2)) rfl).1
  have xc3 := (blk_cell X1 3 (x := .int .i64 (nth (bys s) 3)) rfl).1
  have xc4 := (blk_cell X1 4 (x := .string (s.extract 5 (5 + d))) rfl).1
  have xc5 := (blk_cell X1 5 (x := .string (s.extract (5 + d + 2) (5 + d + 2 + N))) rfl).1
  have xc6 := (blk_cell X1 6 (x := .string (s.extract (5 + d + 2 + N) s.size)) rfl).1
  clear h6 hd1 k4 k1 k2 k3 k5 k6 k7 k8 k9 k10 i0 i1 i2 i3 wA wB hne hs' hNs HV E1 HNN
  go_upto_region 8 with fail
  have A1d : wc.drew.heap[w.heap.size]? = some (.cells zmsg 26 (0, 0)) := A1
  have X1d : wc.drew.heap[w.heap.size + 1]? = some (.cells #[.int .i64 (nth (bys s) 0), .int .i64 (nth (bys s) 1), .int .i64 (nth (bys s) 2), .int .i64 (nth (bys s) 3), .string (s.extract 5 (5 + d)), .string (s.extract (5 + d + 2) (5 + d + 2 + N)), .string (s.extract (5 + d + 2 + N) s.size)] 26 (0, 0)) := X1
  have hdd : w.heap.size + 1 < wc.drew.heap.size := (Array.getElem?_eq_some_iff.1 X1d).1
  have G1d : Below w.heap.size w wc.drew := G1.drew
  have HA1 : Hid (wc.drew.heap[w.heap.size]? = some (.cells zmsg 26 (0, 0)) ∧ wc.drew.heap[w.heap.size + 1]? = some (.cells #[.int .i64 (nth (bys s) 0), .int .i64 (nth (bys s) 1), .int .i64 (nth (bys s) 2), .int .i64 (nth (bys s) 3), .string (s.extract 5 (5 + d)), .string (s.extract (5 + d + 2) (5 + d + 2 + N)), .string (s.extract (5 + d + 2 + N) s.size)] 26 (0, 0)) ∧ w.heap.size + 1 < wc.drew.heap.size ∧ Below w.heap.size w wc.drew) := ⟨A1d, X1d, hdd, G1d⟩
  clear A1d X1d hdd G1d A1 X1 G1
  go_region_with (go_at_call 103; refine (specMessageOK_any (nth (bys s) 0) (nth (bys s) 1) (nth (bys s) 2) (nth (bys s) 3) (s.extract 5 (5 + d)) (s.extract (5 + d + 2) (5 + d + 2 + N)) (s.extract (5 + d + 2 + N) s.size) _).mono ?_; rintro e w6 ⟨rfl, b6⟩; have A6 := (b6.block w.heap.size (Nat.lt_of_succ_lt HA1.out.2.2.1)).trans HA1.out.1; have X6 := (b6.block (w.heap.size + 1) HA1.out.2.2.1).trans HA1.out.2.1; have G6 : Below w.heap.size w w6 := HA1.out.2.2.2.trans (b6.mono HA1.out.2.2.2.size); clear b6; obtain ⟨zc0, zf0⟩ := blk_cell A6 0 (x := .int .i64 0) rfl; obtain ⟨zc1, zf1⟩ := blk_cell A6 1 (x := .int .i64 0) rfl; obtain ⟨zc2, zf2⟩ := blk_cell A6 2 (x := .int .i64 0) rfl; obtain ⟨zc3, zf3⟩ := blk_cell A6 3 (x := .int .i64 0) rfl; obtain ⟨zc4, zf4⟩ := blk_cell A6 4 (x := .string ⟨#[]⟩) rfl; obtain ⟨zc5, zf5⟩ := blk_cell A6 5 (x := .string ⟨#[]⟩) rfl; obtain ⟨zc6, zf6⟩ := blk_cell A6 6 (x := .string ⟨#[]⟩) rfl; have yc0 := (blk_cell X6 0 (x := .int .i64 (nth (bys s) 0)) rfl).1; have yc1 := (blk_cell X6 1 (x := .int .i64 (nth (bys s) 1)) rfl).1; have yc2 := (blk_cell X6 2 (x := .int .i64 (nth (bys s) 2)) rfl).1; have yc3 := (blk_cell X6 3 (x := .int .i64 (nth (bys s) 3)) rfl).1; have yc4 := (blk_cell X6 4 (x := .string (s.extract 5 (5 + d))) rfl).1; have yc5 := (blk_cell X6 5 (x := .string (s.extract (5 + d + 2) (5 + d + 2 + N))) rfl).1; have yc6 := (blk_cell X6 6 (x := .string (s.extract (5 + d + 2 + N) s.size)) rfl).1)
  all_goals
    have AF : (((((((w6.setCell ⟨w.heap.size, 0, none⟩ (.int .i64 (nth (bys s) 0))).setCell ⟨w.heap.size, 1, none⟩ (.int .i64 (nth (bys s) 1))).setCell ⟨w.heap.size, 2, none⟩ (.int .i64 (nth (bys s) 2))).setCell ⟨w.heap.size, 3, none⟩ (.int .i64 (nth (bys s) 3))).setCell ⟨w.heap.size, 4, none⟩ (.string (s.extract 5 (5 + d)))).setCell ⟨w.heap.size, 5, none⟩ (.string (s.extract (5 + d + 2) (5 + d + 2 + N)))).setCell ⟨w.heap.size, 6, none⟩ (.string (s.extract (5 + d + 2 + N) s.size))).heap[w.heap.size]? = some (.cells #[.int .i64 (nth (bys s) 0), .int .i64 (nth (bys s) 1), .int .i64 (nth (bys s) 2), .int .i64 (nth (bys s) 3), .string (s.extract 5 (5 + d)), .string (s.extract (5 + d + 2) (5 + d + 2 + N)), .string (s.extract (5 + d + 2 + N) s.size)] 26 (0, 0)) := (blk_set (blk_set (blk_set (blk_set (blk_set (blk_set (blk_set A6 0 (.int .i64 (nth (bys s) 0))) 1 (.int .i64 (nth (bys s) 1))) 2 (.int .i64 (nth (bys s) 2))) 3 (.int .i64 (nth (bys s) 3))) 4 (.string (s.extract 5 (5 + d)))) 5 (.string (s.extract (5 + d + 2) (5 + d + 2 + N)))) 6 (.string (s.extract (5 + d + 2 + N) s.size)))
    have GF : Below w.heap.size w (((((((w6.setCell ⟨w.heap.size, 0, none⟩ (.int .i64 (nth (bys s) 0))).setCell ⟨w.heap.size, 1, none⟩ (.int .i64 (nth (bys s) 1))).setCell ⟨w.heap.size, 2, none⟩ (.int .i64 (nth (bys s) 2))).setCell ⟨w.heap.size, 3, none⟩ (.int .i64 (nth (bys s) 3))).setCell ⟨w.heap.size, 4, none⟩ (.string (s.extract 5 (5 + d)))).setCell ⟨w.heap.size, 5, none⟩ (.string (s.extract (5 + d + 2) (5 + d + 2 + N)))).setCell ⟨w.heap.size, 6, none⟩ (.string (s.extract (5 + d + 2 + N) s.size))) := (Below.setCell (Below.setCell (Below.setCell (Below.setCell (Below.setCell (Below.setCell (Below.setCell G6 (p := ⟨w.heap.size, 0, none⟩) (Nat.le_refl _) (.int .i64 (nth (bys s) 0))) (p := ⟨w.heap.size, 1, none⟩) (Nat.le_refl _) (.int .i64 (nth (bys s) 1))) (p := ⟨w.heap.size, 2, none⟩) (Nat.le_refl _) (.int .i64 (nth (bys s) 2))) (p := ⟨w.heap.size, 3, none⟩) (Nat.le_refl _) (.int .i64 (nth (bys s) 3))) (p := ⟨w.heap.size, 4, none⟩) (Nat.le_refl _) (.string (s.extract 5 (5 + d)))) (p := ⟨w.heap.size, 5, none⟩) (Nat.le_refl _) (.string (s.extract (5 + d + 2) (5 + d + 2 + N)))) (p := ⟨w.heap.size, 6, none⟩) (Nat.le_refl _) (.string (s.extract (5 + d + 2 + N) s.size)))
    go_wp2_with fail
    generalize (((((((w6.setCell ⟨w.heap.size, 0, none⟩ (.int .i64 (nth (bys s) 0))).setCell ⟨w.heap.size, 1, none⟩ (.int .i64 (nth (bys s) 1))).setCell ⟨w.heap.size, 2, none⟩ (.int .i64 (nth (bys s) 2))).setCell ⟨w.heap.size, 3, none⟩ (.int .i64 (nth (bys s) 3))).setCell ⟨w.heap.size, 4, none⟩ (.string (s.extract 5 (5 + d)))).setCell ⟨w.heap.size, 5, none⟩ (.string (s.extract (5 + d + 2) (5 + d + 2 + N)))).setCell ⟨w.heap.size, 6, none⟩ (.string (s.extract (5 + d + 2 + N) s.size))) = wf at AF GF ⊢
    have d0 := (blk_cell AF 0 (x := .int .i64 (nth (bys s) 0)) rfl).1
    have d1 := (blk_cell AF 1 (x := .int .i64 (nth (bys s) 1)) rfl).1
    have d2 := (blk_cell AF 2 (x := .int .i64 (nth (bys s) 2)) rfl).1
    have d3 := (blk_cell AF 3 (x := .int .i64 (nth (bys s) 3)) rfl).1
    have d4 := (blk_cell AF 4 (x := .string (s.extract 5 (5 + d))) rfl).1
    have d5 := (blk_cell AF 5 (x := .string (s.extract (5 + d + 2) (5 + d + 2 + N))) rfl).1
    have d6 := (blk_cell AF 6 (x := .string (s.extract (5 + d + 2 + N) s.size)) rfl).1
    refine bodyPost_ret (v := .tuple #[.agg #[.int .i64 (nth (bys s) 0), .int .i64 (nth (bys s) 1), .int .i64 (nth (bys s) 2), .int .i64 (nth (bys s) 3), .string (s.extract 5 (5 + d)), .string (s.extract (5 + d + 2) (5 + d + 2 + N)), .string (s.extract (5 + d + 2 + N) s.size)], .bool (msgB (nth (bys s) 0) (nth (bys s) 1) (nth (bys s) 2) (nth (bys s) 3) (s.extract 5 (5 + d)) (s.extract (5 + d + 2) (5 + d + 2 + N)) (s.extract (5 + d + 2 + N) s.size))]) (by simp [results, Tryz.results105, go_sem, d0, d1, d2, d3, d4, d5, d6]) rfl ⟨rfl, GF⟩

theorem l02ReadMessage_no (s : ByteArray) (w : World) (hs : s.size ≤ 65536) (hno : ∀ h : 4 < s.size, s.size < 7 ∨ s.size < 7 + (s[4]'h).toNat ∨ (7 + (s[4]'h).toNat ≤ s.size ∧ (s.size : Int) ≠ 5 + ((s[4]'h).toNat : Int) + 2 + beN (bys (s.extract (5 + (s[4]'h).toNat) (5 + (s[4]'h).toNat + 2))) + 8)) :
    Calls Tryz.prog 105 #[.string s] w fun e w' => e = .returned (.tuple #[.agg zmsg, .bool false]) ∧ Below w.heap.size w w' := by
  by_cases h7 : s.size < 7
  · have h6 : (s.size : Int) < 7 := by omega
    clear hno
    go_enter Tryz.func105, Tryz.ntmps105
    go_wp2_with fail
    refine bodyPost_ret (v := .tuple #[.agg zmsg, .bool false]) (by simp [zmsg, results, Tryz.results105, go_sem]) rfl ⟨rfl, (Below.refl _ _).alloc (Nat.le_refl _) _⟩
  have h4 : 4 < s.size := by omega
  have h6 : (7 : Int) ≤ (s.size : Int) := by omega
  have k4 : (4 : Int) < (s.size : Int) := by omega
  have hno' := hno h4
  have hd8 := (s[4]'h4).toNat_lt
  obtain ⟨d, hd⟩ : ∃ d, (s[4]'h4).toNat = d := ⟨_, rfl⟩
  rw [hd] at hno' hd8
  clear hno
  by_cases hl : s.size < 7 + d
  · have hl' : (s.size : Int) < (7 : Int) + (d : Int) := by omega
    clear hno'
    go_enter Tryz.func105, Tryz.ntmps105
    go_wp2_with fail
    refine bodyPost_ret (v := .tuple #[.agg zmsg, .bool false]) (by simp [zmsg, results, Tryz.results105, go_sem]) rfl ⟨rfl, (Below.refl _ _).alloc (Nat.le_refl _) _⟩
  have hd1 : (7 : Int) + (d : Int) ≤ (s.size : Int) := by omega
  have hne : (s.size : Int) ≠ 5 + (d : Int) + 2 + beN (bys (s.extract (5 + d) (5 + d + 2))) + 8 := by
    rcases hno' with h | h | ⟨_, h⟩
    · omega
    · omega
    · exact h
  have hr := beN_range (bys (s.extract (5 + d) (5 + d + 2))) (bys_range _)
  have hlen : (bys (s.extract (5 + d) (5 + d + 2))).length = 2 := by rw [bys_length, ext_size]; omega
  rw [hlen] at hr
  have e1 := ext_small s (5 + d) (5 + d + 2) (by omega)
  have E1 : Hid (∀ _ : Unit, (s.extract (5 + d) (5 + d + 2)).size ≤ 4) := fun _ => e1
  obtain ⟨m, hm⟩ : ∃ m, beN (bys (s.extract (5 + d) (5 + d + 2))) = m := ⟨_, rfl⟩
  rw [hm] at hne hr
  have HM : Hid (beN (bys (s.extract (5 + d) (5 + d + 2))) = m) := hm
  have hm0 : 0 ≤ m := hr.1
  have hm1 : m < 65536 := hr.2
  have hnb : ((s.size : Int) != (5 : Int) + (d : Int) + 2 + m + 8) = true := by rw [bne_iff_ne]; exact hne
  have hs' : (s.size : Int) ≤ 65536 := by omega
  clear hno' hl e1 hr hlen hm hne
  go_enter Tryz.func105, Tryz.ntmps105
  go_wp2_with fail
  refine (l02Of_any (s.extract (5 + d) (5 + d + 2)) _ (E1.out ())).mono ?_
  rintro e w' ⟨rfl, rfl⟩
  rw [HM.out]
  go_wp2_with fail
  refine bodyPost_ret (v := .tuple #[.agg zmsg, .bool false]) (by simp [zmsg, results, Tryz.results105, go_sem]) rfl ⟨rfl, (Below.refl _ _).alloc (Nat.le_refl _) _⟩
end Go.Proofs.YtkfiahemgdppfaaGreatDoor.Om

/- Messages are read: both ReadMessage functions answer alike. -/
namespace Go.Proofs.YtkfiahemgdppfaaGreatDoor.Om
open Go.RowKit Go.Proofs.YtkfiahemgdppfaaGreatDoor.Sl Go.Proofs.YtkfiahemgdppfaaGreatDoor.By Go.Proofs.YtkfiahemgdppfaaGreatDoor.Ap Go.Proofs.YtkfiahemgdppfaaGreatDoor.Rq Go.Proofs.YtkfiahemgdppfaaGreatDoor.Rr Go.Proofs.YtkfiahemgdppfaaGreatDoor.Of Go.Proofs.YtkfiahemgdppfaaGreatDoor.Ms

/-- What both answer. -/
def readMsg (xs : List Int) : Value := rjV zmsg #[.int .i64 (beN (tkB 1 xs)), .int .i64 (beN (tkB 1 (tkR 1 xs))), .int .i64 (beN (tkB 1 (tkR 1 (tkR 1 xs)))), .int .i64 (beN (tkB 1 (tkR 1 (tkR 1 (tkR 1 xs))))), .string (mgDg xs), .string (mgBd xs), .string (mgMc xs)] (decide (65536 < xs.length)) (!mgSh xs false && ((mgRest xs).isEmpty && msgB (beN (tkB 1 xs)) (beN (tkB 1 (tkR 1 xs))) (beN (tkB 1 (tkR 1 (tkR 1 xs)))) (beN (tkB 1 (tkR 1 (tkR 1 (tkR 1 xs))))) (mgDg xs) (mgBd xs) (mgMc xs)))
theorem readMsg_form (xs : List Int) : ∃ (kd vw sq fr : Int) (dg bd mc : ByteArray) (code : Int), readMsg xs = .tuple #[.agg #[.int .i64 kd, .int .i64 vw, .int .i64 sq, .int .i64 fr, .string dg, .string bd, .string mc], .int .i64 code] := by
  unfold readMsg rjV
  split
  · exact ⟨0, 0, 0, 0, ⟨#[]⟩, ⟨#[]⟩, ⟨#[]⟩, 2, rfl⟩
  · split
    · exact ⟨_, _, _, _, _, _, _, 0, rfl⟩
    · exact ⟨0, 0, 0, 0, ⟨#[]⟩, ⟨#[]⟩, ⟨#[]⟩, 3, rfl⟩
theorem ext_list (xs : List Int) (hr : ∀ x ∈ xs, 0 ≤ x ∧ x ≤ 255) (a b : Nat) : (strOfNums xs).extract a b = strOfNums ((xs.take b).drop a) := by
  rw [← str_bys ((strOfNums xs).extract a b), bys_ext, bys_str xs hr]
theorem eq_msg_yes (xs : List Int) (hr : ∀ x ∈ xs, 0 ≤ x ∧ x ≤ 255) (hq : xs.length = 15 + mD xs + mN xs) :
    beN (tkB 1 xs) = nth (bys (strOfNums xs)) 0 ∧ beN (tkB 1 (tkR 1 xs)) = nth (bys (strOfNums xs)) 1 ∧ beN (tkB 1 (tkR 1 (tkR 1 xs))) = nth (bys (strOfNums xs)) 2 ∧ beN (tkB 1 (tkR 1 (tkR 1 (tkR 1 xs)))) = nth (bys (strOfNums xs)) 3 ∧
      mgDg xs = (strOfNums xs).extract 5 (5 + mD xs) ∧ mgBd xs = (strOfNums xs).extract (5 + mD xs + 2) (5 + mD xs + 2 + mN xs) ∧ mgMc xs = (strOfNums xs).extract (5 + mD xs + 2 + mN xs) (strOfNums xs).size ∧ mgRest xs = [] ∧ mgSh xs false = false := by
  obtain ⟨a1, a2, a3, a4, a5, a6, a7, a8, a9⟩ := msg_open xs (by omega)
  rw [bys_str xs hr]
  refine ⟨a1, a2, a3, a4, ?_, ?_, ?_, ?_, a9⟩
  · rw [a5, ext_list xs hr, List.take_drop]
  · rw [a6, ext_list xs hr, List.take_drop, show 5 + mD xs + 2 = 7 + mD xs by omega]
  · rw [a7, ext_list xs hr, strOfNums_size, List.take_drop, show 7 + mD xs + mN xs + 8 = xs.length by omega, show 5 + mD xs + 2 + mN xs = 7 + mD xs + mN xs by omega]
  · rw [a8]; exact List.drop_eq_nil_of_le (by omega)
theorem eq_msg_no (xs : List Int) (hno : xs.length ≠ 15 + mD xs + mN xs) (b : Bool) : (!mgSh xs false && ((mgRest xs).isEmpty && b)) = false := by
  cases h : mgSh xs false
  · have hl := msg_inv xs h
    obtain ⟨_, _, _, _, _, _, _, a8, _⟩ := msg_open xs hl
    have : (mgRest xs).isEmpty = false := by
      rw [a8]
      cases he : xs.drop (15 + mD xs + mN xs) with
      | nil =>
        have := congrArg List.length he
        rw [List.length_drop] at this
        simp at this
        omega
      | cons y ys => rfl
    rw [this]
    rfl
  · rfl
theorem mD_lt (xs : List Int) (hr : ∀ x ∈ xs, 0 ≤ x ∧ x ≤ 255) : mD xs < 256 := by unfold mD; have := range_at hr 4; omega
theorem mN_eq (xs : List Int) (hr : ∀ x ∈ xs, 0 ≤ x ∧ x ≤ 255) : beN (bys ((strOfNums xs).extract (5 + mD xs) (5 + mD xs + 2))) = (mN xs : Int) := by
  rw [bys_ext, bys_str xs hr]
  unfold mN
  rw [List.take_drop]
  have := beN_range ((xs.take (5 + mD xs + 2)).drop (5 + mD xs)) (fun x hx => hr x (List.mem_of_mem_take (List.mem_of_mem_drop hx)))
  omega

set_option maxHeartbeats 400000 in
theorem implReadMessage_any (v : Value) (xs : List Int) (w : World) (h : RowB w v xs) (hl : xs.length ≤ 1048576) :
    Calls Tryz.prog 137 #[v] w fun e w' => e = .returned (readMsg xs) ∧ Below w.heap.size w w' := by
  obtain ⟨kd, vw, sq, fr, dg, bd, mc, code, hf⟩ := readMsg_form xs
  have HF : Hid (readMsg xs = .tuple #[.agg #[.int .i64 kd, .int .i64 vw, .int .i64 sq, .int .i64 fr, .string dg, .string bd, .string mc], .int .i64 code]) := hf
  have h' := h
  obtain ⟨a, cap, rfl, _, _⟩ := h
  have HR : Hid (RowB w (.slice a xs.length cap) xs) := h'
  clear h' hf
  go_enter Tryz.func137, Tryz.ntmps137
  go_wp2_with fail
  refine (readJustMsg_gen _ xs _ (HR.out.below ((Below.refl _ _).alloc (Nat.le_refl _) _)) hl (beN (tkB 1 xs)) (beN (tkB 1 (tkR 1 xs))) (beN (tkB 1 (tkR 1 (tkR 1 xs)))) (beN (tkB 1 (tkR 1 (tkR 1 (tkR 1 xs))))) (mgDg xs) (mgBd xs) (mgMc xs) (mgRest xs) (mgSh xs false) (fun W p B h1 h2 h3 h4 => takeMessage_any p B xs false W h1 h2 h3 h4)).mono ?_
  rintro e w1 ⟨rfl, b1⟩
  rw [show rjV zmsg #[.int .i64 (beN (tkB 1 xs)), .int .i64 (beN (tkB 1 (tkR 1 xs))), .int .i64 (beN (tkB 1 (tkR 1 (tkR 1 xs)))), .int .i64 (beN (tkB 1 (tkR 1 (tkR 1 (tkR 1 xs))))), .string (mgDg xs), .string (mgBd xs), .string (mgMc xs)] (decide (65536 < xs.length)) (!mgSh xs false && ((mgRest xs).isEmpty && msgB (beN (tkB 1 xs)) (beN (tkB 1 (tkR 1 xs))) (beN (tkB 1 (tkR 1 (tkR 1 xs)))) (beN (tkB 1 (tkR 1 (tkR 1 (tkR 1 xs))))) (mgDg xs) (mgBd xs) (mgMc xs))) = readMsg xs from rfl, HF.out]
  have A1 : w1.heap[w.heap.size]? = some (.cells zmsg 26 (0, 0)) := (b1.block w.heap.size (by simp)).trans (blk_new w zmsg 26)
  have G1 := box_old (box_first b1)
  clear b1 HR
  obtain ⟨zc0, zf0⟩ := blk_cell A1 0 (x := .int .i64 0) rfl
  obtain ⟨zc1, zf1⟩ := blk_cell A1 1 (x := .int .i64 0) rfl
  obtain ⟨zc2, zf2⟩ := blk_cell A1 2 (x := .int .i64 0) rfl
  obtain ⟨zc3, zf3⟩ := blk_cell A1 3 (x := .int .i64 0) rfl
  obtain ⟨zc4, zf4⟩ := blk_cell A1 4 (x := .string ⟨#[]⟩) rfl
  obtain ⟨zc5, zf5⟩ := blk_cell A1 5 (x := .string ⟨#[]⟩) rfl
  obtain ⟨zc6, zf6⟩ := blk_cell A1 6 (x := .string ⟨#[]⟩) rfl
  have AF : (((((((w1.setCell ⟨w.heap.size, 0, none⟩ (.int .i64 kd)).setCell ⟨w.heap.size, 1, none⟩ (.int .i64 vw)).setCell ⟨w.heap.size, 2, none⟩ (.int .i64 sq)).setCell ⟨w.heap.size, 3, none⟩ (.int .i64 fr)).setCell ⟨w.heap.size, 4, none⟩ (.string dg)).setCell ⟨w.heap.size, 5, none⟩ (.string bd)).setCell ⟨w.heap.size, 6, none⟩ (.string mc)).heap[w.heap.size]? = some (.cells #[.int .i64 kd, .int .i64 vw, .int .i64 sq, .int .i64 fr, .string dg, .string bd, .string mc] 26 (0, 0)) := (blk_set (blk_set (blk_set (blk_set (blk_set (blk_set (blk_set A1 0 (.int .i64 kd)) 1 (.int .i64 vw)) 2 (.int .i64 sq)) 3 (.int .i64 fr)) 4 (.string dg)) 5 (.string bd)) 6 (.string mc))
  have GF : Below w.heap.size w (((((((w1.setCell ⟨w.heap.size, 0, none⟩ (.int .i64 kd)).setCell ⟨w.heap.size, 1, none⟩ (.int .i64 vw)).setCell ⟨w.heap.size, 2, none⟩ (.int .i64 sq)).setCell ⟨w.heap.size, 3, none⟩ (.int .i64 fr)).setCell ⟨w.heap.size, 4, none⟩ (.string dg)).setCell ⟨w.heap.size, 5, none⟩ (.string bd)).setCell ⟨w.heap.size, 6, none⟩ (.string mc)) := (Below.setCell (Below.setCell (Below.setCell (Below.setCell (Below.setCell (Below.setCell (Below.setCell G1 (p := ⟨w.heap.size, 0, none⟩) (Nat.le_refl _) (.int .i64 kd)) (p := ⟨w.heap.size, 1, none⟩) (Nat.le_refl _) (.int .i64 vw)) (p := ⟨w.heap.size, 2, none⟩) (Nat.le_refl _) (.int .i64 sq)) (p := ⟨w.heap.size, 3, none⟩) (Nat.le_refl _) (.int .i64 fr)) (p := ⟨w.heap.size, 4, none⟩) (Nat.le_refl _) (.string dg)) (p := ⟨w.heap.size, 5, none⟩) (Nat.le_refl _) (.string bd)) (p := ⟨w.heap.size, 6, none⟩) (Nat.le_refl _) (.string mc))
  go_wp2_with fail
  generalize (((((((w1.setCell ⟨w.heap.size, 0, none⟩ (.int .i64 kd)).setCell ⟨w.heap.size, 1, none⟩ (.int .i64 vw)).setCell ⟨w.heap.size, 2, none⟩ (.int .i64 sq)).setCell ⟨w.heap.size, 3, none⟩ (.int .i64 fr)).setCell ⟨w.heap.size, 4, none⟩ (.string dg)).setCell ⟨w.heap.size, 5, none⟩ (.string bd)).setCell ⟨w.heap.size, 6, none⟩ (.string mc)) = wf at AF GF ⊢
  have d0 := (blk_cell AF 0 (x := .int .i64 kd) rfl).1
  have d1 := (blk_cell AF 1 (x := .int .i64 vw) rfl).1
  have d2 := (blk_cell AF 2 (x := .int .i64 sq) rfl).1
  have d3 := (blk_cell AF 3 (x := .int .i64 fr) rfl).1
  have d4 := (blk_cell AF 4 (x := .string dg) rfl).1
  have d5 := (blk_cell AF 5 (x := .string bd) rfl).1
  have d6 := (blk_cell AF 6 (x := .string mc) rfl).1
  refine bodyPost_ret (v := .tuple #[.agg #[.int .i64 kd, .int .i64 vw, .int .i64 sq, .int .i64 fr, .string dg, .string bd, .string mc], .int .i64 code]) (by simp [results, Tryz.results137, go_sem, d0, d1, d2, d3, d4, d5, d6]) rfl ⟨ret_val HF.out.symm, GF⟩

end Go.Proofs.YtkfiahemgdppfaaGreatDoor.Om

/- Messages in a row of one's own; one message read off a text, by the program and by the specification. -/
namespace Go.Proofs.YtkfiahemgdppfaaGreatDoor.Rc
open Go.RowKit Go.Proofs.YtkfiahemgdppfaaGreatDoor.Sl Go.Proofs.YtkfiahemgdppfaaGreatDoor.By Go.Proofs.YtkfiahemgdppfaaGreatDoor.Ap Go.Proofs.YtkfiahemgdppfaaGreatDoor.Rq Go.Proofs.YtkfiahemgdppfaaGreatDoor.Rr Go.Proofs.YtkfiahemgdppfaaGreatDoor.Of Go.Proofs.YtkfiahemgdppfaaGreatDoor.Om Go.Proofs.YtkfiahemgdppfaaGreatDoor.Ms Go.Proofs.YtkfiahemgdppfaaGreatDoor.Gm Go.Proofs.YtkfiahemgdppfaaGreatDoor.Cb
open Go.Proofs.YtkfiahemgdppfaaGreatDoor.Ty (RowT tnth)
open Go.Proofs.YtkfiahemgdppfaaGreatDoor.Tl (OwnS)
open Go.Proofs.YtkfiahemgdppfaaGreatDoor.Rg (RowG RowG.slice RowG.at lt_at mem_at bel_new)

def cl (x : Mg) : List Value := [.int .i64 x.kd, .int .i64 x.vw, .int .i64 x.sq, .int .i64 x.fr, .string x.dg, .string x.bd, .string x.mc]
theorem cl_len (x : Mg) : (cl x).length = 7 := rfl
theorem cl_one (x : Mg) : ∀ u ∈ cl x, u.oneCell' = true := by
  intro u hu
  unfold cl at hu
  simp only [List.mem_cons, List.not_mem_nil, or_false] at hu
  rcases hu with h | h | h | h | h | h | h <;> (rw [h]; rfl)
theorem fm_len : ∀ (ms : List Mg), (ms.flatMap cl).length = ms.length * 7
  | [] => rfl
  | x :: xs => by rw [List.flatMap_cons, List.length_append, fm_len xs, cl_len, List.length_cons]; omega
theorem fm_at : ∀ (ms : List Mg) (i : Nat) (x : Mg) (j : Nat), ms[i]? = some x → j < 7 → (ms.flatMap cl)[i * 7 + j]? = (cl x)[j]?
  | [], i, x, j, h, _ => by simp at h
  | y :: ys, 0, x, j, h, hj => by
    simp at h
    subst h
    rw [List.flatMap_cons, Nat.zero_mul, Nat.zero_add, List.getElem?_append_left (by rw [cl_len]; exact hj)]
  | y :: ys, i + 1, x, j, h, hj => by
    have h' : ys[i]? = some x := by simpa using h
    rw [List.flatMap_cons, List.getElem?_append_right (by rw [cl_len]; omega), cl_len, show (i + 1) * 7 + j - 7 = i * 7 + j by omega]
    exact fm_at ys i x j h' hj
/-- Messages in a slice of the call's own. -/
def OwnM (w : World) (B : Nat) (v : Value) (ms : List Mg) : Prop := w.ownsRow B 26 7 v ms.length (ms.flatMap cl)
theorem OwnM.row {w : World} {B : Nat} {v : Value} {ms : List Mg} (h : OwnM w B v ms) : Row w v ms := by
  obtain ⟨hl, h⟩ := h
  rcases h with ⟨rfl, h0⟩ | ⟨g, cap, cur, rfl, hB, hg, hc, _, hs, htk⟩
  · exact ⟨none, 0, by rw [h0], .inl (List.length_eq_zero_iff.1 h0)⟩
  · refine ⟨_, cap, rfl, .inr ⟨g, 0, rfl, hc, (Array.getElem?_eq_some_iff.1 hg).1, fun i x hi => ?_⟩⟩
    have hil := lt_at hi
    have key : ∀ j u, j < 7 → (cl x)[j]? = some u → w.cell? ⟨g, 0 + i * 7 + j, none⟩ = some u := fun j u hj hu => by
      rw [Nat.zero_add, Joins.cell_of_block hg, ← Array.getElem?_toList]
      have h1 := fm_at ms i x j hi hj
      rw [← htk, List.getElem?_take, if_pos (by omega)] at h1
      rw [h1, hu]
    exact ⟨key 0 _ (by decide) rfl, key 1 _ (by decide) rfl, key 2 _ (by decide) rfl, key 3 _ (by decide) rfl, key 4 _ (by decide) rfl, key 5 _ (by decide) rfl, key 6 _ (by decide) rfl⟩
theorem OwnM.kept {w w' : World} {B : Nat} {v : Value} {ms : List Mg} (h : OwnM w B v ms) (hk : ∀ g, v.ownBlock = some g → w'.heap[g]? = w.heap[g]?) : OwnM w' B v ms := by
  obtain ⟨hl, h⟩ := h
  refine ⟨hl, ?_⟩
  rcases h with h | ⟨g, cap, cur, rfl, h1, hg, h2⟩
  · exact .inl h
  · exact .inr ⟨g, cap, cur, rfl, h1, (hk g rfl).trans hg, h2⟩
theorem OwnM.lt {w : World} {B : Nat} {v : Value} {ms : List Mg} (h : OwnM w B v ms) : ∀ g, v.ownBlock = some g → B ≤ g ∧ g < w.heap.size := World.ownsRow.lt h
theorem OwnM.below {w w' : World} {B : Nat} {v : Value} {ms : List Mg} (h : OwnM w B v ms) (hb : Below w.heap.size w w') : OwnM w' B v ms := h.kept fun g hg => hb.block g (h.lt g hg).2
theorem OwnM.mono {w : World} {B B' : Nat} {v : Value} {ms : List Mg} (h : OwnM w B v ms) (hb : B' ≤ B) : OwnM w B' v ms := by
  obtain ⟨hl, h⟩ := h
  refine ⟨hl, ?_⟩
  rcases h with h | ⟨g, cap, cur, rfl, h1, hg, h2⟩
  · exact .inl h
  · exact .inr ⟨g, cap, cur, rfl, Nat.le_trans hb h1, hg, h2⟩
theorem OwnM.nil (w : World) (B : Nat) : OwnM w B (.slice none 0 0) [] := World.ownsRow_nil _ _ _ _
theorem OwnM.made (w : World) (B : Nat) (hB : B ≤ w.heap.size) : OwnM (w.alloc (.cells #[] 26)) B (.slice (some ⟨w.heap.size, 0, none⟩) 0 0) [] := World.ownsRow_made w #[] 0 hB (by decide) rfl
theorem OwnM.alloc {w : World} {B : Nat} {v : Value} {ms : List Mg} (h : OwnM w B v ms) (o : Obj) : OwnM (w.alloc o) B v ms := h.below (bel_new _ _)
theorem info_m : (Tryz.prog.info? 26).map (fun i => (i.zero, i.size, i.bytes)) = some (some (.agg #[.int .i64 0, .int .i64 0, .int .i64 0, .int .i64 0, .string ⟨#[]⟩, .string ⟨#[]⟩, .string ⟨#[]⟩]), 7, 80) := by kernel_rfl
/-- Nothing was written but v's own row, and new blocks. -/
def Kq (W w' : World) (v v' : Value) : Prop := ∀ k, k < W.heap.size → some k ≠ v.ownBlock → w'.heap[k]? = W.heap[k]? ∧ some k ≠ v'.ownBlock
/-- One message more. -/
theorem list_msg {P : Program} {ops : Array Oper} {rest : List Oper} {o : Oper} {a : Act} {Q : Exit → Act → World → Prop} (hgd : o.guard = none) (s x : Operand) (t : TypeId)
    (ho : o.op = .call { callee := .builtin .append, args := #[s, x], argTypes := #[t, t] }) (i : TypeInfo) (ht : P.underlying t = some (.slice 26)) (hi : P.info? 26 = some i) (hz : i.zero = some (.agg #[.int .i64 0, .int .i64 0, .int .i64 0, .int .i64 0, .string ⟨#[]⟩, .string ⟨#[]⟩, .string ⟨#[]⟩]))
    (hsize : i.size = 7) (hby : i.bytes = 80) (B : Nat) (w0 W : World) (v : Value) (ms : List Mg) (m : Mg) (hs : a.eval s = v) (hown : OwnM W B v ms) (hg0 : Below B w0 W) (hB : B ≤ W.heap.size)
    (gx : Nat) (hx : a.eval x = .slice (some ⟨gx, 0, none⟩) 1 1) (hgx : W.heap.size = gx) (hlen : ms.length ≤ 1000000)
    (h : ∀ v' w', OwnM w' B v' (ms ++ [m]) → Below B w0 w' → Kq W w' v v' → wpList P ops Q rest (a.put o.dst v') w') : wpList P ops Q (o :: rest) a (W.alloc (.cells #[.int .i64 m.kd, .int .i64 m.vw, .int .i64 m.sq, .int .i64 m.fr, .string m.dg, .string m.bd, .string m.mc] 26)) := by
  subst hgx
  have hown' := hown.alloc (.cells #[.int .i64 m.kd, .int .i64 m.vw, .int .i64 m.sq, .int .i64 m.fr, .string m.dg, .string m.bd, .string m.mc] 26)
  refine wpList_append_own_at (P := P) _ hgd s x t ho B 26 i _ 7 80 ht hi hz hsize hby rfl (by decide) v ms.length _ hs hown' ⟨W.heap.size, 0, none⟩ 1 1 (cl m) hx rfl ?_ (cl_one m) (by unfold maxLen; omega) (by omega) (by simp; omega) ?_
  · intro j u hj
    have h2 : (⟨W.heap.size, 0, none⟩ : Addr).add j = ⟨W.heap.size, j, none⟩ := by unfold Addr.add; split <;> simp_all
    rw [h2, Joins.cell_of_block (heap_alloc_new W _), ← hj]
    simp [cl]
  · intro v' w' h1 h2 h3 h4
    refine h v' w' (by unfold OwnM; rw [List.flatMap_append, List.length_append]; simpa using h1) ((hg0.alloc hB _).grown h2 (by simp; omega) (fun k hk => (hown'.lt k hk).1)) (fun k hk hn => ⟨(h2.block k (by simp; omega) hn).trans (Below.heap_alloc W _ k hk), fun e => ?_⟩)
    rcases h4 with h4 | h4
    · exact hn (e.trans h4)
    · rw [h4] at e
      simp at e
      omega
/-- What one text reads as: the message, and the code. -/
theorem rd_ex (t : ByteArray) : ∃ (m : Mg) (c : Int), readMsg (bys t) = .tuple #[oneV m, .int .i64 c] := by
  obtain ⟨kd, vw, sq, fr, dg, bd, mc, code, h⟩ := readMsg_form (bys t)
  exact ⟨⟨kd, vw, sq, fr, dg, bd, mc⟩, code, h⟩
noncomputable def mOf (t : ByteArray) : Mg := (rd_ex t).choose
noncomputable def cOf (t : ByteArray) : Int := (rd_ex t).choose_spec.choose
theorem rd_eq (t : ByteArray) : readMsg (bys t) = .tuple #[oneV (mOf t), .int .i64 (cOf t)] := (rd_ex t).choose_spec.choose_spec
theorem tup_inj {a b : Value} {c d : Int} (h : Value.tuple #[a, .int .i64 c] = .tuple #[b, .int .i64 d]) : a = b ∧ c = d := by
  injection h with h
  have h2 := congrArg Array.toList h
  simp at h2
  exact h2
theorem one_inj {x y : Mg} (h : oneV x = oneV y) : x = y := by
  unfold oneV at h
  injection h with h
  have h2 := congrArg Array.toList h
  cases x
  cases y
  simp at h2
  simp [h2]
theorem ok_right (t : ByteArray) (h : cOf t = 0) : mB (mOf t) = true := by
  have e := rd_eq t
  rw [h] at e
  unfold readMsg rjV at e
  split at e
  · obtain ⟨_, h2⟩ := tup_inj e
    cases h2
  · split at e
    · rename_i h3
      obtain ⟨h1, _⟩ := tup_inj e
      rw [Bool.and_eq_true, Bool.and_eq_true] at h3
      have h4 := h3.2.2
      have h5 := one_inj (x := ⟨_, _, _, _, _, _, _⟩) h1
      rw [← h5]
      exact h4
    · obtain ⟨_, h2⟩ := tup_inj e
      cases h2
/-- The specification reads it alike. -/
theorem l02ReadMessage_any (s : ByteArray) (w : World) (hs : s.size ≤ 65536) :
    Calls Tryz.prog 105 #[.string s] w fun e w' => (∃ m : Mg, e = .returned (.tuple #[oneV m, .bool (decide (cOf s = 0))]) ∧ (cOf s = 0 → m = mOf s)) ∧ Below w.heap.size w w' := by
  have hr := bys_range s
  have e0 := str_bys s
  have hsz : (bys s).length = s.size := bys_length s
  have hD := mD_lt (bys s) hr
  have hNe := mN_eq (bys s) hr
  have hRE := rd_eq s
  have h4e : ∀ h : 4 < (strOfNums (bys s)).size, ((strOfNums (bys s))[4]'h).toNat = mD (bys s) := by
    intro h
    have := str_at (bys s) hr 4 h
    unfold mD
    omega
  have hz := strOfNums_size (bys s)
  by_cases hyes : (bys s).length = 15 + mD (bys s) + mN (bys s)
  · obtain ⟨e1, e2, e3, e4, e5, e6, e7, e8, e9⟩ := eq_msg_yes (bys s) hr hyes
    have HY := l02ReadMessage_yes (strOfNums (bys s)) w (mD (bys s)) (mN (bys s)) (by omega) (by omega) (h4e (by omega)) hNe (by omega)
    have HE : readMsg (bys s) = if msgB (nth (bys (strOfNums (bys s))) 0) (nth (bys (strOfNums (bys s))) 1) (nth (bys (strOfNums (bys s))) 2) (nth (bys (strOfNums (bys s))) 3) ((strOfNums (bys s)).extract 5 (5 + mD (bys s))) ((strOfNums (bys s)).extract (5 + mD (bys s) + 2) (5 + mD (bys s) + 2 + mN (bys s))) ((strOfNums (bys s)).extract (5 + mD (bys s) + 2 + mN (bys s)) (strOfNums (bys s)).size) then .tuple #[.agg #[.int .i64 (nth (bys (strOfNums (bys s))) 0), .int .i64 (nth (bys (strOfNums (bys s))) 1), .int .i64 (nth (bys (strOfNums (bys s))) 2), .int .i64 (nth (bys (strOfNums (bys s))) 3), .string ((strOfNums (bys s)).extract 5 (5 + mD (bys s))), .string ((strOfNums (bys s)).extract (5 + mD (bys s) + 2) (5 + mD (bys s) + 2 + mN (bys s))), .string ((strOfNums (bys s)).extract (5 + mD (bys s) + 2 + mN (bys s)) (strOfNums (bys s)).size)], .int .i64 0] else .tuple #[.agg zmsg, .int .i64 3] := by
      unfold readMsg; rw [e1, e2, e3, e4, e5, e6, e7, e8, e9, decide_eq_false (by omega)]; rfl
    rw [hRE] at HE
    clear e1 e2 e3 e4 e5 e6 e7 e8 e9 hyes h4e hNe hD
    generalize (strOfNums (bys s)).extract 5 (5 + mD (bys s)) = dg at HE HY
    generalize (strOfNums (bys s)).extract (5 + mD (bys s) + 2 + mN (bys s)) (strOfNums (bys s)).size = mc at HE HY
    generalize (strOfNums (bys s)).extract (5 + mD (bys s) + 2) (5 + mD (bys s) + 2 + mN (bys s)) = bd at HE HY
    generalize nth (bys (strOfNums (bys s))) 0 = kd at HE HY
    generalize nth (bys (strOfNums (bys s))) 1 = vw at HE HY
    generalize nth (bys (strOfNums (bys s))) 2 = sq at HE HY
    generalize nth (bys (strOfNums (bys s))) 3 = fr at HE HY
    rw [e0] at HY
    refine HY.mono ?_
    rintro e w' ⟨rfl, b⟩
    refine ⟨⟨⟨kd, vw, sq, fr, dg, bd, mc⟩, ?_, fun hc => ?_⟩, b⟩
    · cases hq : msgB kd vw sq fr dg bd mc with
      | true =>
        rw [hq] at HE
        obtain ⟨_, h2⟩ := tup_inj HE
        rw [decide_eq_true h2]
        rfl
      | false =>
        rw [hq] at HE
        obtain ⟨_, h2⟩ := tup_inj HE
        rw [decide_eq_false (by omega)]
        rfl
    · cases hq : msgB kd vw sq fr dg bd mc with
      | true =>
        rw [hq] at HE
        obtain ⟨h1, _⟩ := tup_inj HE
        exact (one_inj (x := mOf s) (y := ⟨kd, vw, sq, fr, dg, bd, mc⟩) h1).symm
      | false =>
        rw [hq] at HE
        obtain ⟨_, h2⟩ := tup_inj HE
        omega
  · have hno : ∀ h : 4 < (strOfNums (bys s)).size, (strOfNums (bys s)).size < 7 ∨ (strOfNums (bys s)).size < 7 + ((strOfNums (bys s))[4]'h).toNat ∨ (7 + ((strOfNums (bys s))[4]'h).toNat ≤ (strOfNums (bys s)).size ∧ ((strOfNums (bys s)).size : Int) ≠ 5 + (((strOfNums (bys s))[4]'h).toNat : Int) + 2 + beN (bys ((strOfNums (bys s)).extract (5 + ((strOfNums (bys s))[4]'h).toNat) (5 + ((strOfNums (bys s))[4]'h).toNat + 2))) + 8) := by
      intro h
      rw [h4e h, hNe]
      omega
    have HN : readMsg (bys s) = .tuple #[.agg zmsg, .int .i64 3] := by unfold readMsg; rw [eq_msg_no (bys s) hyes, decide_eq_false (by omega)]; rfl
    have HY := l02ReadMessage_no (strOfNums (bys s)) w (by omega) hno
    rw [hRE] at HN
    obtain ⟨_, h2⟩ := tup_inj HN
    rw [e0] at HY
    refine HY.mono ?_
    rintro e w' ⟨rfl, b⟩
    refine ⟨⟨⟨0, 0, 0, 0, ⟨#[]⟩, ⟨#[]⟩, ⟨#[]⟩⟩, ?_, fun hc => by omega⟩, b⟩
    rw [decide_eq_false (by omega)]
    rfl
end Go.Proofs.YtkfiahemgdppfaaGreatDoor.Rc
