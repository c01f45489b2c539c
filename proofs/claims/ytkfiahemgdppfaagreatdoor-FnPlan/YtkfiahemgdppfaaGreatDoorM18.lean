/- Texts put together: Wb, Bw, Bd, Vc, Dp. -/
import Derived.Test.YtkfiahemgdppfaaGreatDoorM14
import Derived.Test.YtkfiahemgdppfaaGreatDoorM13
import Derived.Test.YtkfiahemgdppfaaGreatDoorM17
import Derived.Test.YtkfiahemgdppfaaGreatDoorM9
import Derived.Test.YtkfiahemgdppfaaGreatDoorM5
import Derived.Test.YtkfiahemgdppfaaGreatDoorM6
import Derived.Lib.FrozenHead
import Derived.Test.YtkfiahemgdppfaaGreatDoorM16
import Derived.Test.YtkfiahemgdppfaaGreatDoorM1
import Derived.Laws.StructEq
import Derived.Test.YtkfiahemgdppfaaGreatDoorM10
import Derived.Test.YtkfiahemgdppfaaGreatDoorM15
/- Requests, messages and batches are read back from their bytes, and written again: of no program. -/
namespace Go.Proofs.YtkfiahemgdppfaaGreatDoor.Wb
open Go.RowKit Go.Proofs.YtkfiahemgdppfaaGreatDoor.Sl Go.Proofs.YtkfiahemgdppfaaGreatDoor.By Go.Proofs.YtkfiahemgdppfaaGreatDoor.Ap Go.Proofs.YtkfiahemgdppfaaGreatDoor.Rq Go.Proofs.YtkfiahemgdppfaaGreatDoor.Rr Go.Proofs.YtkfiahemgdppfaaGreatDoor.Pu Go.Proofs.YtkfiahemgdppfaaGreatDoor.Rp Go.Proofs.YtkfiahemgdppfaaGreatDoor.Mp Go.Proofs.YtkfiahemgdppfaaGreatDoor.Ms Go.Proofs.YtkfiahemgdppfaaGreatDoor.Of Go.Proofs.YtkfiahemgdppfaaGreatDoor.Om Go.Proofs.YtkfiahemgdppfaaGreatDoor.Gr Go.Proofs.YtkfiahemgdppfaaGreatDoor.Bo Go.Proofs.YtkfiahemgdppfaaGreatDoor.Bt Go.Proofs.YtkfiahemgdppfaaGreatDoor.Tkb

theorem tk_app {n : Nat} {a b : List Int} (h : a.length = n) : tkB n (a ++ b) = a ∧ tkR n (a ++ b) = b ∧ ∀ sh, tkS n (a ++ b) sh = sh := by
  obtain ⟨h1, h2, h3⟩ := tk_yes (n := n) (xs := a ++ b) (by rw [List.length_append]; omega)
  refine ⟨?_, ?_, h3⟩
  · rw [h1, List.take_append_of_le_length (by omega), List.take_of_length_le (by omega)]
  · rw [h2, List.drop_append_of_le_length (by omega), List.drop_eq_nil_of_le (by omega)]; rfl
theorem be1 {x : Int} (h0 : 0 ≤ x) (h1 : x ≤ 255) : beN (nums x 1 1) = x := by
  have e : nums x 1 1 = [nb x 0] := rfl
  rw [e]
  have e0 : nb x 0 = x := by show x / 1 % 256 = x; omega
  simp [beN, e0]
theorem be2 {x : Int} (h0 : 0 ≤ x) (h1 : x ≤ 65535) : beN (nums x 2 2) = x := by
  have e : nums x 2 2 = [nb x 1, nb x 0] := rfl
  rw [e]
  have e0 : nb x 0 = x % 256 := by show x / 1 % 256 = _; omega
  have e1 : nb x 1 = x / 256 % 256 := rfl
  simp [beN, e0, e1]
  omega
theorem be4 {x : Int} (h0 : 0 ≤ x) (h1 : x ≤ 4294967295) : beN (nums x 4 4) = x := by
  have e : nums x 4 4 = [nb x 3, nb x 2, nb x 1, nb x 0] := rfl
  rw [e]
  have e0 : nb x 0 = x % 256 := by show x / 1 % 256 = _; omega
  have e1 : nb x 1 = x / 256 % 256 := rfl
  have e2 : nb x 2 = x / 65536 % 256 := rfl
  have e3 : nb x 3 = x / 16777216 % 256 := rfl
  simp [beN, e0, e1, e2, e3]
  omega
theorem txt_app {n : Nat} {s : ByteArray} {rest : List Int} (h : beN (nums (s.size : Int) n n) = (s.size : Int)) :
    txtB n (nums (s.size : Int) n n ++ (bys s ++ rest)) = s ∧ txtR n (nums (s.size : Int) n n ++ (bys s ++ rest)) = rest ∧ ∀ sh, txtS n (nums (s.size : Int) n n ++ (bys s ++ rest)) sh = sh := by
  obtain ⟨a1, a2, a3⟩ := tk_app (n := n) (a := nums (s.size : Int) n n) (b := bys s ++ rest) (nums_length _ _ _)
  obtain ⟨b1, b2, b3⟩ := tk_app (n := s.size) (a := bys s) (b := rest) (bys_length _)
  have en : txtN n (nums (s.size : Int) n n ++ (bys s ++ rest)) = s.size := by unfold txtN; rw [a1, h]; rfl
  unfold txtB txtR txtS
  rw [en, a2, b1, b2, str_bys]
  refine ⟨rfl, rfl, fun sh => ?_⟩
  rw [a3, b3]

theorem in_of {x a b : Int} (h : inB x a b = true) : a ≤ x ∧ x ≤ b := of_decide_eq_true h
theorem req_parts {c st k l : Int} {n : ByteArray} (h : reqB c st k l n = true) : (0 ≤ c ∧ c ≤ 255) ∧ (1 ≤ st ∧ st ≤ 65535) ∧ (1 ≤ k ∧ k ≤ 4) ∧ (0 ≤ l ∧ l ≤ 1000) ∧ n.size ≤ 12 := by
  have hn := req_small h
  rw [req_split] at h
  simp only [Bool.and_eq_true] at h
  exact ⟨in_of h.1, in_of h.2.1, in_of h.2.2.1, in_of h.2.2.2.1, hn⟩
/-- A request's bytes are taken just so, whatever comes behind them. -/
theorem req_back {c st k l : Int} {n : ByteArray} (h : reqB c st k l n = true) (rest : List Int) :
    rqC (reqBs c st k l n ++ rest) = c ∧ rqS (reqBs c st k l n ++ rest) = st ∧ rqK (reqBs c st k l n ++ rest) = k ∧ rqL (reqBs c st k l n ++ rest) = l ∧ rqN (reqBs c st k l n ++ rest) = n ∧ rqRest (reqBs c st k l n ++ rest) = rest ∧ ∀ sh, rqSh (reqBs c st k l n ++ rest) sh = sh := by
  obtain ⟨⟨c0, c1⟩, ⟨s0, s1⟩, ⟨k0, k1⟩, ⟨l0, l1⟩, hn⟩ := req_parts h
  unfold reqBs
  simp only [List.append_assoc]
  obtain ⟨a1, a2, a3⟩ := tk_app (n := 1) (a := nums c 1 1) (b := nums st 2 2 ++ (nums k 1 1 ++ (nums l 2 2 ++ (nums (n.size : Int) 1 1 ++ (bys n ++ rest))))) (nums_length _ _ _)
  obtain ⟨b1, b2, b3⟩ := tk_app (n := 2) (a := nums st 2 2) (b := nums k 1 1 ++ (nums l 2 2 ++ (nums (n.size : Int) 1 1 ++ (bys n ++ rest)))) (nums_length _ _ _)
  obtain ⟨d1, d2, d3⟩ := tk_app (n := 1) (a := nums k 1 1) (b := nums l 2 2 ++ (nums (n.size : Int) 1 1 ++ (bys n ++ rest))) (nums_length _ _ _)
  obtain ⟨f1, f2, f3⟩ := tk_app (n := 2) (a := nums l 2 2) (b := nums (n.size : Int) 1 1 ++ (bys n ++ rest)) (nums_length _ _ _)
  obtain ⟨g1, g2, g3⟩ := txt_app (n := 1) (s := n) (rest := rest) (be1 (by omega) (by omega))
  unfold rqC rqS rqK rqL rqN rqRest rqSh rqT
  rw [a2, b2, d2, f2, a1, b1, d1, f1, g1, g2, be1 c0 c1, be2 (by omega) s1, be1 (by omega) (by omega), be2 l0 (by omega)]
  refine ⟨rfl, rfl, rfl, rfl, rfl, rfl, fun sh => ?_⟩
  rw [a3, b3, d3, f3, g3]
theorem readReq_back {c st k l : Int} {n : ByteArray} (h : reqB c st k l n = true) : readReq (reqBs c st k l n) = .tuple #[.agg #[.int .i64 c, .int .i64 st, .int .i64 k, .int .i64 l, .string n], .int .i64 0] := by
  obtain ⟨h1, h2, h3, h4, h5, h6, h7⟩ := req_back h []
  rw [List.append_nil] at h1 h2 h3 h4 h5 h6 h7
  have hl := reqBs_length c st k l n
  have hs := req_small h
  unfold readReq
  rw [h1, h2, h3, h4, h5, h6, h7, h, decide_eq_false (by omega)]
  rfl

theorem msg_parts {kd vw sq fr : Int} {dg bd mc : ByteArray} (h : msgB kd vw sq fr dg bd mc = true) : (1 ≤ kd ∧ kd ≤ 5) ∧ (0 ≤ vw ∧ vw ≤ 20) ∧ (0 ≤ sq ∧ sq ≤ 8) ∧ (0 ≤ fr ∧ fr ≤ 6) ∧ dg.size ≤ 32 ∧ bd.size ≤ 20000 ∧ mc.size = 8 := by
  obtain ⟨d, b, m⟩ := msg_small h
  rw [msg_split] at h
  simp only [Bool.and_eq_true] at h
  refine ⟨in_of h.1, in_of h.2.1, ?_, in_of h.2.2.1, d, b, m⟩
  have hk := h.2.2.2.2.2
  rcases kinds kd with rfl | rfl | rfl | rfl | rfl | hq
  · rw [kind1] at hk; simp only [Bool.and_eq_true, placeB] at hk; have := in_of hk.1.1; omega
  · rw [kind2] at hk; simp only [Bool.and_eq_true, placeB] at hk; have := in_of hk.1.1; omega
  · rw [kind3] at hk; simp only [Bool.and_eq_true, placeB] at hk; have := in_of hk.1.1; omega
  · rw [kind4] at hk; simp only [Bool.and_eq_true, beq_iff_eq] at hk; omega
  · rw [kind5] at hk; simp only [Bool.and_eq_true, beq_iff_eq] at hk; omega
  · have := in_of h.1; omega
theorem readMsg_back {kd vw sq fr : Int} {dg bd mc : ByteArray} (h : msgB kd vw sq fr dg bd mc = true) : readMsg (msgBs kd vw sq fr dg bd mc) = .tuple #[.agg #[.int .i64 kd, .int .i64 vw, .int .i64 sq, .int .i64 fr, .string dg, .string bd, .string mc], .int .i64 0] := by
  obtain ⟨⟨k0, k1⟩, ⟨v0, v1⟩, ⟨s0, s1⟩, ⟨f0, f1⟩, hd, hb, hm⟩ := msg_parts h
  have hl := msgBs_length kd vw sq fr dg bd mc
  have hx : msgBs kd vw sq fr dg bd mc = nums kd 1 1 ++ (nums vw 1 1 ++ (nums sq 1 1 ++ (nums fr 1 1 ++ (nums (dg.size : Int) 1 1 ++ (bys dg ++ (nums (bd.size : Int) 2 2 ++ (bys bd ++ (bys mc ++ [])))))))) := by
    unfold msgBs plainBs headBs
    simp only [List.append_assoc, List.append_nil]
  unfold readMsg
  rw [decide_eq_false (by omega), hx]
  obtain ⟨a1, a2, a3⟩ := tk_app (n := 1) (a := nums kd 1 1) (b := nums vw 1 1 ++ (nums sq 1 1 ++ (nums fr 1 1 ++ (nums (dg.size : Int) 1 1 ++ (bys dg ++ (nums (bd.size : Int) 2 2 ++ (bys bd ++ (bys mc ++ [])))))))) (nums_length _ _ _)
  obtain ⟨b1, b2, b3⟩ := tk_app (n := 1) (a := nums vw 1 1) (b := nums sq 1 1 ++ (nums fr 1 1 ++ (nums (dg.size : Int) 1 1 ++ (bys dg ++ (nums (bd.size : Int) 2 2 ++ (bys bd ++ (bys mc ++ []))))))) (nums_length _ _ _)
  obtain ⟨c1, c2, c3⟩ := tk_app (n := 1) (a := nums sq 1 1) (b := nums fr 1 1 ++ (nums (dg.size : Int) 1 1 ++ (bys dg ++ (nums (bd.size : Int) 2 2 ++ (bys bd ++ (bys mc ++ [])))))) (nums_length _ _ _)
  obtain ⟨d1, d2, d3⟩ := tk_app (n := 1) (a := nums fr 1 1) (b := nums (dg.size : Int) 1 1 ++ (bys dg ++ (nums (bd.size : Int) 2 2 ++ (bys bd ++ (bys mc ++ []))))) (nums_length _ _ _)
  obtain ⟨e1, e2, e3⟩ := txt_app (n := 1) (s := dg) (rest := nums (bd.size : Int) 2 2 ++ (bys bd ++ (bys mc ++ []))) (be1 (by omega) (by omega))
  obtain ⟨g1, g2, g3⟩ := txt_app (n := 2) (s := bd) (rest := bys mc ++ []) (be2 (by omega) (by omega))
  obtain ⟨i1, i2, i3⟩ := tk_app (n := 8) (a := bys mc) (b := []) (by rw [bys_length]; exact hm)
  unfold mgSh mgRest mgDg mgBd mgMc mg3
  rw [a2, b2, c2, d2, a1, b1, c1, d1, e1, e2, g1, g2, i1, i2, a3, b3, c3, d3, e3, g3, i3, be1 (by omega) (by omega), be1 (by omega) (by omega), be1 (by omega) (by omega), be1 (by omega) (by omega), str_bys, h]
  rfl

/-! what was taken is written again -/
theorem tk_join {n : Nat} {xs : List Int} {sh : Bool} (h : tkS n xs sh = false) : tkB n xs ++ tkR n xs = xs ∧ (tkB n xs).length = n ∧ sh = false := by
  obtain ⟨h1, h2⟩ := tkS_false.1 h
  rw [tkB_yes h2, tkR_yes h2, List.take_append_drop, List.length_take]
  exact ⟨rfl, by omega, h1⟩
theorem nums_be1 {xs : List Int} (hr : ∀ x ∈ xs, 0 ≤ x ∧ x ≤ 255) (h : xs.length = 1) : nums (beN xs) 1 1 = xs := by
  match xs, h with
  | [a], _ =>
    have ha := hr a (by simp)
    have e : beN [a] = a := by simp [beN]
    rw [e]
    show [a / 1 % 256] = [a]
    congr 1
    omega
theorem nums_be2 {xs : List Int} (hr : ∀ x ∈ xs, 0 ≤ x ∧ x ≤ 255) (h : xs.length = 2) : nums (beN xs) 2 2 = xs := by
  match xs, h with
  | [a, b], _ =>
    have ha := hr a (by simp)
    have hb := hr b (by simp)
    have e : beN [a, b] = a * 256 + b := by simp [beN]
    rw [e]
    have e0 : (a * 256 + b) / 256 % 256 = a := by omega
    have e1 : (a * 256 + b) / 1 % 256 = b := by omega
    show [(a * 256 + b) / 256 % 256, (a * 256 + b) / 1 % 256] = [a, b]
    rw [e0, e1]
theorem nums_be4 {xs : List Int} (hr : ∀ x ∈ xs, 0 ≤ x ∧ x ≤ 255) (h : xs.length = 4) : nums (beN xs) 4 4 = xs := by
  match xs, h with
  | [a, b, c, d], _ =>
    have ha := hr a (by simp)
    have hb := hr b (by simp)
    have hc := hr c (by simp)
    have hd := hr d (by simp)
    have e : beN [a, b, c, d] = ((a * 256 + b) * 256 + c) * 256 + d := by simp [beN]
    rw [e]
    have e0 : (((a * 256 + b) * 256 + c) * 256 + d) / 16777216 % 256 = a := by omega
    have e1 : (((a * 256 + b) * 256 + c) * 256 + d) / 65536 % 256 = b := by omega
    have e2 : (((a * 256 + b) * 256 + c) * 256 + d) / 256 % 256 = c := by omega
    have e3 : (((a * 256 + b) * 256 + c) * 256 + d) / 1 % 256 = d := by omega
    show [(((a * 256 + b) * 256 + c) * 256 + d) / 16777216 % 256, (((a * 256 + b) * 256 + c) * 256 + d) / 65536 % 256, (((a * 256 + b) * 256 + c) * 256 + d) / 256 % 256, (((a * 256 + b) * 256 + c) * 256 + d) / 1 % 256] = [a, b, c, d]
    rw [e0, e1, e2, e3]
theorem txt_join {n : Nat} {xs : List Int} {sh : Bool} (hr : ∀ x ∈ xs, 0 ≤ x ∧ x ≤ 255) (hn : n = 1 ∨ n = 2) (h : txtS n xs sh = false) : nums ((txtB n xs).size : Int) n n ++ (bys (txtB n xs) ++ txtR n xs) = xs ∧ sh = false := by
  unfold txtS at h
  obtain ⟨a1, a2, a3⟩ := tk_join h
  obtain ⟨b1, b2, b3⟩ := tk_join a3
  have hr2 := tkR_range (n := n) hr
  have e1 : bys (txtB n xs) = tkB (txtN n xs) (tkR n xs) := by unfold txtB; exact bys_str _ (tkB_range hr2)
  have e2 : ((txtB n xs).size : Int) = beN (tkB n xs) := by
    rw [bys_size, e1, a2, (txtN_le n xs (by omega) hr).2]
  have e3 : nums (beN (tkB n xs)) n n = tkB n xs := by
    rcases hn with rfl | rfl
    · exact nums_be1 (tkB_range hr) b2
    · exact nums_be2 (tkB_range hr) b2
  refine ⟨?_, b3⟩
  rw [e2, e3, e1]
  unfold txtR
  rw [a1, b1]
theorem req_again {xs : List Int} {sh : Bool} (hr : ∀ x ∈ xs, 0 ≤ x ∧ x ≤ 255) (h : rqSh xs sh = false) : reqBs (rqC xs) (rqS xs) (rqK xs) (rqL xs) (rqN xs) ++ rqRest xs = xs ∧ sh = false := by
  unfold rqSh at h
  have r1 := tkR_range (n := 1) hr
  have r2 := tkR_range (n := 2) r1
  have r3 := tkR_range (n := 1) r2
  have r4 := tkR_range (n := 2) r3
  obtain ⟨t1, t2⟩ := txt_join r4 (.inl rfl) h
  obtain ⟨a1, a2, a3⟩ := tk_join t2
  obtain ⟨b1, b2, b3⟩ := tk_join a3
  obtain ⟨c1, c2, c3⟩ := tk_join b3
  obtain ⟨d1, d2, d3⟩ := tk_join c3
  refine ⟨?_, d3⟩
  unfold reqBs rqN rqRest rqC rqS rqK rqL rqT
  simp only [List.append_assoc]
  rw [t1, nums_be1 (tkB_range hr) d2, nums_be2 (tkB_range r1) c2, nums_be1 (tkB_range r2) b2, nums_be2 (tkB_range r3) a2, a1, b1, c1, d1]
theorem msg_again {xs : List Int} (hr : ∀ x ∈ xs, 0 ≤ x ∧ x ≤ 255) (h : mgSh xs false = false) : msgBs (beN (tkB 1 xs)) (beN (tkB 1 (tkR 1 xs))) (beN (tkB 1 (tkR 1 (tkR 1 xs)))) (beN (tkB 1 (tkR 1 (tkR 1 (tkR 1 xs))))) (mgDg xs) (mgBd xs) (mgMc xs) ++ mgRest xs = xs := by
  unfold mgSh at h
  have r1 := tkR_range (n := 1) hr
  have r2 := tkR_range (n := 1) r1
  have r3 := tkR_range (n := 1) r2
  have r4 := tkR_range (n := 1) r3
  have r5 : ∀ x ∈ txtR 1 (mg3 xs), 0 ≤ x ∧ x ≤ 255 := txtR_range r4
  have r6 : ∀ x ∈ txtR 2 (txtR 1 (mg3 xs)), 0 ≤ x ∧ x ≤ 255 := txtR_range r5
  obtain ⟨m1, m2, m3⟩ := tk_join h
  obtain ⟨t1, t2⟩ := txt_join r5 (.inr rfl) m3
  obtain ⟨s1, s2⟩ := txt_join (xs := mg3 xs) r4 (.inl rfl) t2
  obtain ⟨a1, a2, a3⟩ := tk_join s2
  obtain ⟨b1, b2, b3⟩ := tk_join a3
  obtain ⟨c1, c2, c3⟩ := tk_join b3
  obtain ⟨d1, d2, d3⟩ := tk_join c3
  unfold msgBs plainBs headBs mgMc mgRest mgDg mgBd
  simp only [List.append_assoc]
  rw [bys_str _ (tkB_range r6), m1, t1, s1, nums_be1 (tkB_range hr) d2, nums_be1 (tkB_range r1) c2, nums_be1 (tkB_range r2) b2, nums_be1 (tkB_range r3) a2]
  unfold mg3
  rw [a1, b1, c1, d1]
/-- What ReadMessage answers: a code; where it is none, what was read is right and its bytes are these. -/
theorem readMsg_again (xs : List Int) (hr : ∀ x ∈ xs, 0 ≤ x ∧ x ≤ 255) : ∃ (kd vw sq fr : Int) (dg bd mc : ByteArray) (code : Int), readMsg xs = .tuple #[.agg #[.int .i64 kd, .int .i64 vw, .int .i64 sq, .int .i64 fr, .string dg, .string bd, .string mc], .int .i64 code] ∧ (code = 0 → msgB kd vw sq fr dg bd mc = true ∧ msgBs kd vw sq fr dg bd mc = xs) := by
  unfold readMsg rjV
  split
  · exact ⟨_, _, _, _, _, _, _, _, rfl, fun h => by cases h⟩
  split
  · rename_i hok
    simp only [Bool.and_eq_true, Bool.not_eq_true'] at hok
    refine ⟨_, _, _, _, _, _, _, _, rfl, fun _ => ⟨hok.2.2, ?_⟩⟩
    have := msg_again hr hok.1
    rw [List.isEmpty_iff.1 hok.2.1, List.append_nil] at this
    exact this
  · exact ⟨_, _, _, _, _, _, _, _, rfl, fun h => by cases h⟩

/-! batches -/
theorem rd_back (x : Rd) (hm : x.m.size = 8) (hf : 0 ≤ x.f ∧ x.f ≤ 255) (hx : 0 ≤ x.x ∧ x.x ≤ 1000000000) (rest : List Int) : rd1 (rdBs x ++ rest) = x ∧ rdRest (rdBs x ++ rest) = rest ∧ ∀ sh, rdSh (rdBs x ++ rest) sh = sh := by
  unfold rdBs
  simp only [List.append_assoc]
  obtain ⟨a1, a2, a3⟩ := tk_app (n := 1) (a := nums x.f 1 1) (b := nums x.x 4 4 ++ (bys x.m ++ rest)) (nums_length _ _ _)
  obtain ⟨b1, b2, b3⟩ := tk_app (n := 4) (a := nums x.x 4 4) (b := bys x.m ++ rest) (nums_length _ _ _)
  obtain ⟨c1, c2, c3⟩ := tk_app (n := 8) (a := bys x.m) (b := rest) (by rw [bys_length]; exact hm)
  unfold rd1 rdRest rdSh
  rw [a2, b2, a1, b1, c1, c2, be1 hf.1 hf.2, be4 hx.1 (by omega), str_bys]
  exact ⟨rfl, rfl, fun sh => by rw [a3, b3, c3]⟩
theorem rs_back : ∀ (rs : List Rd), (∀ x ∈ rs, x.m.size = 8 ∧ (0 ≤ x.f ∧ x.f ≤ 255) ∧ (0 ≤ x.x ∧ x.x ≤ 1000000000)) → ∀ (rest : List Int) (k : Nat), k ≤ rs.length → bR (rsBs rs ++ rest) k = rsBs (rs.drop k) ++ rest ∧ bL (rsBs rs ++ rest) k = rs.take k ∧ ∀ sh, bS (rsBs rs ++ rest) sh k = sh := by
  intro rs hrs rest k
  induction k with
  | zero => intro _; exact ⟨by simp [bR], by simp [bL], fun _ => rfl⟩
  | succ k ih =>
    intro hk
    obtain ⟨h1, h2, h3⟩ := ih (by omega)
    have hd : rs.drop k = rs[k] :: rs.drop (k + 1) := List.drop_eq_getElem_cons (by omega)
    obtain ⟨m1, m2, m3⟩ := hrs rs[k] (List.getElem_mem _)
    have hx : rsBs (rs.drop k) ++ rest = rdBs rs[k] ++ (rsBs (rs.drop (k + 1)) ++ rest) := by rw [hd]; show (rs[k] :: rs.drop (k + 1)).flatMap rdBs ++ rest = _; rw [List.flatMap_cons, List.append_assoc]; rfl
    obtain ⟨e1, e2, e3⟩ := rd_back rs[k] m1 m2 m3 (rsBs (rs.drop (k + 1)) ++ rest)
    unfold bR bL bS
    rw [h1, h2, hx, e1, e2]
    refine ⟨rfl, by rw [List.take_add_one, List.getElem?_eq_getElem (by omega)]; rfl, fun sh => ?_⟩
    rw [e3, h3]
theorem rOK_from : ∀ (rs : List Rd) (l : Int), 0 ≤ l → rOK l rs = true → ∀ x ∈ rs, 0 ≤ x.f
  | [], _, _, _ => fun x hx => by cases hx
  | y :: ys, l, hl, h => by
    unfold rOK r1 at h
    simp only [Bool.and_eq_true] at h
    have hy := in_of h.1.1
    intro x hx
    rcases List.mem_cons.1 hx with rfl | hx
    · omega
    · exact rOK_from ys (y.f + 1) (by omega) h.2 x hx
/-- A right batch is read back. -/
theorem bat_back {nl : Bool} {c st k l : Int} {n : ByteArray} {rs : List Rd} (h : bOK nl c st k l n rs = true) (_hz : nl = true → c = 0 ∧ st = 0 ∧ k = 0 ∧ l = 0 ∧ n = ⟨#[]⟩ ∧ rs = []) : rbC (batBs nl c st k l n rs) = 0 ∧ rbX (batBs nl c st k l n rs) = ⟨nl, c, st, k, l, n, rs⟩ ∧ (batBs nl c st k l n rs).length ≤ 200 := by
  cases nl with
  | true =>
    obtain ⟨rfl, rfl, rfl, rfl, rfl, rfl⟩ := _hz rfl
    have hb : batBs true 0 0 0 0 ⟨#[]⟩ [] = [0] := rfl
    have hc : cnt [0] = 0 := by simp [cnt, tkB, beN]
    have hz : zB 0 0 0 0 ⟨#[]⟩ = true := by unfold zB; simp
    have hk : rbOK [0] = true := by
      unfold rbOK tbS tbR tbX
      rw [if_pos hc, if_pos hc, if_pos hc]
      show (!(tkS 1 [0] false) && ((tkR 1 [0]).isEmpty && (zB 0 0 0 0 ⟨#[]⟩ && ((([] : List Rd).length : Int) == 0)))) = true
      rw [hz]
      rfl
    have hX : tbX [0] = ⟨true, 0, 0, 0, 0, ⟨#[]⟩, []⟩ := by unfold tbX; rw [if_pos hc]
    rw [hb]
    refine ⟨?_, ?_, by decide⟩
    · unfold rbC rjC; rw [hk]; rfl
    · unfold rbX rjX; rw [hk, hX]; rfl
  | false =>
    obtain ⟨h12, h7, h8, hq, ho⟩ := bOK_parts h
    have hsm := rOK_small rs 0 ho
    have hfr := rOK_from rs 0 (by decide) ho
    have hall : ∀ x ∈ rs, x.m.size = 8 ∧ (0 ≤ x.f ∧ x.f ≤ 255) ∧ (0 ≤ x.x ∧ x.x ≤ 1000000000) := fun x hx => by
      obtain ⟨a, b, c', d⟩ := hsm x hx
      have := hfr x hx
      exact ⟨a, ⟨this, by omega⟩, c', d⟩
    have hlen : (batBs false c st k l n rs).length ≤ 200 := by
      show (nums ((rs.length : Int) + 1) 1 1 ++ rsBs rs ++ reqBs c st k l n).length ≤ 200
      rw [List.length_append, List.length_append, nums_length, rsBs_len rs h8, reqBs_length]
      omega
    have hx : batBs false c st k l n rs = nums ((rs.length : Int) + 1) 1 1 ++ (rsBs rs ++ (reqBs c st k l n ++ [])) := by
      show nums ((rs.length : Int) + 1) 1 1 ++ rsBs rs ++ reqBs c st k l n = _
      simp only [List.append_assoc, List.append_nil]
    obtain ⟨a1, a2, a3⟩ := tk_app (n := 1) (a := nums ((rs.length : Int) + 1) 1 1) (b := rsBs rs ++ (reqBs c st k l n ++ [])) (nums_length _ _ _)
    obtain ⟨b1, b2, b3⟩ := rs_back rs hall (reqBs c st k l n ++ []) rs.length (Nat.le_refl _)
    rw [List.drop_length] at b1
    rw [List.take_length] at b2
    have b1' : bR (rsBs rs ++ (reqBs c st k l n ++ [])) rs.length = reqBs c st k l n ++ [] := by rw [b1]; rfl
    obtain ⟨d1, d2, d3, d4, d5, d6, d7⟩ := req_back hq []
    have hc : cnt (batBs false c st k l n rs) = rs.length + 1 := by
      unfold cnt; rw [hx, a1, be1 (by omega) (by omega)]; omega
    have e1 : tkR 1 (batBs false c st k l n rs) = rsBs rs ++ (reqBs c st k l n ++ []) := by rw [hx, a2]
    have e2 : tkS 1 (batBs false c st k l n rs) false = false := by rw [hx, a3]
    have ez : tbZ (batBs false c st k l n rs) = reqBs c st k l n ++ [] := by
      unfold tbZ; rw [hc, e1]; exact b1'
    have eX : tbX (batBs false c st k l n rs) = ⟨false, c, st, k, l, n, rs⟩ := by
      unfold tbX
      rw [if_neg (by omega), ez, d1, d2, d3, d4, d5, e1, hc]
      show Bv.mk false c st k l n (bL (rsBs rs ++ (reqBs c st k l n ++ [])) rs.length) = _
      rw [b2]
    have eR : tbR (batBs false c st k l n rs) = [] := by
      unfold tbR; rw [if_neg (by omega), ez, d6]
    have eS : tbS (batBs false c st k l n rs) = false := by
      unfold tbS
      rw [if_neg (by omega), ez, d7, e1, e2, hc]
      exact b3 false
    have eok : rbOK (batBs false c st k l n rs) = true := by
      unfold rbOK
      rw [eS, eR, eX]
      show (!false && (List.isEmpty ([] : List Int) && bOK false c st k l n rs)) = true
      rw [h]
      rfl
    refine ⟨?_, ?_, hlen⟩
    · unfold rbC rjC; rw [eok, decide_eq_false (by omega)]; rfl
    · unfold rbX rjX; rw [eok, decide_eq_false (by omega), eX]; rfl
theorem rd_again {xs : List Int} {sh : Bool} (hr : ∀ x ∈ xs, 0 ≤ x ∧ x ≤ 255) (h : rdSh xs sh = false) : rdBs (rd1 xs) ++ rdRest xs = xs ∧ sh = false := by
  unfold rdSh at h
  have r1 := tkR_range (n := 1) hr
  have r2 := tkR_range (n := 4) r1
  obtain ⟨a1, a2, a3⟩ := tk_join h
  obtain ⟨b1, b2, b3⟩ := tk_join a3
  obtain ⟨c1, c2, c3⟩ := tk_join b3
  refine ⟨?_, c3⟩
  unfold rdBs rd1 rdRest
  dsimp only
  simp only [List.append_assoc]
  rw [bys_str _ (tkB_range r2), a1, nums_be4 (tkB_range r1) b2, b1, nums_be1 (tkB_range hr) c2, c1]
theorem rs_again {xs : List Int} {sh : Bool} (hr : ∀ x ∈ xs, 0 ≤ x ∧ x ≤ 255) : ∀ k, bS xs sh k = false → rsBs (bL xs k) ++ bR xs k = xs ∧ sh = false
  | 0, h => ⟨rfl, h⟩
  | k + 1, h => by
    have h' : rdSh (bR xs k) (bS xs sh k) = false := h
    obtain ⟨e1, e2⟩ := rd_again (bR_range hr k) h'
    obtain ⟨i1, i2⟩ := rs_again hr k e2
    refine ⟨?_, i2⟩
    have : rsBs (bL xs (k + 1)) = rsBs (bL xs k) ++ rdBs (rd1 (bR xs k)) := by
      show (bL xs k ++ [rd1 (bR xs k)]).flatMap rdBs = _
      rw [List.flatMap_append]
      simp [rsBs]
    rw [this, List.append_assoc]
    show rsBs (bL xs k) ++ (rdBs (rd1 (bR xs k)) ++ rdRest (bR xs k)) = xs
    rw [e1, i1]
/-- What was read is written again. -/
theorem bat_again {xs : List Int} (hr : ∀ x ∈ xs, 0 ≤ x ∧ x ≤ 255) (h : rbC xs = 0) : bOKx (rbX xs) = true ∧ batBs (rbX xs).nl (rbX xs).c (rbX xs).st (rbX xs).k (rbX xs).l (rbX xs).n (rbX xs).rs = xs := by
  have h65 : ¬ 65536 < xs.length := fun hb => by unfold rbC rjC at h; rw [decide_eq_true hb] at h; cases h
  have ok : rbOK xs = true := by
    cases e : rbOK xs with
    | true => rfl
    | false => unfold rbC rjC at h; rw [decide_eq_false h65, e] at h; cases h
  have hX : rbX xs = tbX xs := by unfold rbX rjX; rw [ok, decide_eq_false h65]; rfl
  unfold rbOK at ok
  simp only [Bool.and_eq_true, Bool.not_eq_true'] at ok
  obtain ⟨hS, hE, hO⟩ := ok
  have hE' : tbR xs = [] := List.isEmpty_iff.1 hE
  rw [hX]
  refine ⟨hO, ?_⟩
  obtain ⟨n1, n2⟩ := cnt_eq hr
  by_cases h0 : cnt xs = 0
  · unfold tbS at hS
    unfold tbR at hE'
    rw [if_pos h0] at hS hE'
    obtain ⟨a1, a2, a3⟩ := tk_join hS
    unfold tbX
    rw [if_pos h0]
    show [0] = xs
    have e := nums_be1 (tkB_range (n := 1) hr) a2
    rw [n1, h0] at e
    rw [hE', List.append_nil] at a1
    rw [← a1, ← e]
    rfl
  · unfold tbS at hS
    unfold tbR at hE'
    rw [if_neg h0] at hS hE'
    have r1 := tkR_range (n := 1) hr
    have rz : ∀ x ∈ tbZ xs, 0 ≤ x ∧ x ≤ 255 := bR_range r1 _
    obtain ⟨q1, q2⟩ := req_again rz hS
    obtain ⟨s1, s2⟩ := rs_again r1 (cnt xs - 1) q2
    obtain ⟨a1, a2, a3⟩ := tk_join s2
    have e := nums_be1 (tkB_range (n := 1) hr) a2
    rw [n1] at e
    unfold tbX
    rw [if_neg h0]
    rw [hE', List.append_nil] at q1
    dsimp only
    unfold batBs
    rw [if_neg (by decide)]
    rw [bL_len, show ((cnt xs - 1 : Nat) : Int) + 1 = (cnt xs : Int) by omega, e, q1, List.append_assoc]
    unfold tbZ
    rw [s1, a1]
end Go.Proofs.YtkfiahemgdppfaaGreatDoor.Wb

/- Bodies that are right, of the program and of the specification. -/
namespace Go.Proofs.YtkfiahemgdppfaaGreatDoor.Bw
open Go.RowKit Go.Proofs.YtkfiahemgdppfaaGreatDoor.Sl Go.Proofs.YtkfiahemgdppfaaGreatDoor.By Go.Proofs.YtkfiahemgdppfaaGreatDoor.Ap Go.Proofs.YtkfiahemgdppfaaGreatDoor.Sh Go.Proofs.YtkfiahemgdppfaaGreatDoor.Ho Go.Proofs.YtkfiahemgdppfaaGreatDoor.Tm Go.Proofs.YtkfiahemgdppfaaGreatDoor.Tkb
open Go.Proofs.YtkfiahemgdppfaaGreatDoor.Ti (implReadingsTime_any tCode tOut t_cases)
open Go.Proofs.YtkfiahemgdppfaaGreatDoor.Ts (good lOut)
open Go.Proofs.YtkfiahemgdppfaaGreatDoor.Wb (bat_again)
open Go.Proofs.YtkfiahemgdppfaaGreatDoor.Rg (RowG RowG.slice RowG.at lt_at mem_at bel_new blk_cell)

theorem ret_b {a b : Bool} (h : a = b) : Ending.returned (.bool a) = .returned (.bool b) := by rw [h]
def cv (x : Gr.Rd) : Rw.Rd := ⟨x.f, x.x, x.m⟩
theorem row_r {w : World} {v : Value} {xs : List Gr.Rd} (h : Gr.Row w v xs) : Rw.RowR w v (xs.map cv) := by
  obtain ⟨a, cap, rfl, h⟩ := h
  refine ⟨a, cap, by rw [List.length_map], ?_⟩
  rcases h with rfl | ⟨b, off, rfl, hc, hlt, h⟩
  · exact .inl rfl
  · refine .inr ⟨b, off, rfl, by rw [List.length_map]; exact hc, hlt, fun i hi => ?_⟩
    rw [List.length_map] at hi
    have e : xs[i]? = some xs[i] := List.getElem?_eq_getElem hi
    have r : Rw.rn (xs.map cv) i = cv xs[i] := by unfold Rw.rn; rw [List.getD_eq_getElem?_getD, List.getElem?_map, e]; rfl
    rw [r]
    exact h i _ e
/-- A body is right; it is, and is not too long. -/
def bdB (n : Int) (s : ByteArray) : Bool := rbOK (bys s) && ((tbX (bys s)).nl || good n ((tbX (bys s)).rs.map cv))
def bdP (n : Int) (s : ByteArray) : Bool := decide (s.size ≤ 20000) && bdB n s
theorem ok_small {s : ByteArray} (hs : s.size ≤ 65536) (h : rbOK (bys s) = true) : s.size ≤ 20000 := by
  have hl := bys_length s
  have hc : rbC (bys s) = 0 := by unfold rbC rjC; rw [decide_eq_false (by omega), h]; rfl
  obtain ⟨h1, h2⟩ := bat_again (bys_range s) hc
  rw [← hl, ← h2]
  unfold bOKx at h1
  generalize rbX (bys s) = X at h1
  obtain ⟨nl, c, st, k, l, nm, rs⟩ := X
  unfold Bt.batBs
  cases nl with
  | true => show (1 : Nat) ≤ 20000; decide
  | false =>
    obtain ⟨p1, p2, p3, _, _⟩ : nm.size ≤ 12 ∧ rs.length ≤ 7 ∧ (∀ x ∈ rs, x.m.size = 8) ∧ Rq.reqB c st k l nm = true ∧ Bo.rOK 0 rs = true := Bt.bOK_parts h1
    simp only [Bool.false_eq_true, if_false, List.length_append, Pu.nums_length, Bt.rsBs_len _ p3, Rp.reqBs_length]
    omega
theorem c_zero {s : ByteArray} : rbC (bys s) = 0 ↔ s.size ≤ 65536 ∧ rbOK (bys s) = true := by
  have hl := bys_length s
  unfold rbC rjC
  by_cases h : 65536 < (bys s).length
  · rw [decide_eq_true h]; simp; omega
  · rw [decide_eq_false h]
    cases rbOK (bys s) <;> simp; omega
theorem x_ok {s : ByteArray} (h : rbC (bys s) = 0) : rbX (bys s) = tbX (bys s) := by
  obtain ⟨h1, h2⟩ := c_zero.1 h
  have hl := bys_length s
  unfold rbX rjX
  rw [decide_eq_false (by omega), h2]; rfl
theorem t_good {n : Int} {rs : List Rw.Rd} (hf : fCode n = 0) (hl : rs.length ≤ 4096) : ((tCode n rs == 0) : Bool) = good n rs := by
  unfold tCode good
  rw [if_neg (by omega), if_neg (by omega)]
  by_cases h1 : (rs.length : Int) = 2 * fOut n + 1
  · rw [decide_eq_true h1]
    cases h2 : (Rs.okAll rs && Rs.mkAll n rs) with
    | true => rw [if_pos ⟨h1, rfl⟩]; rfl
    | false => rw [if_neg (by simp)]; rfl
  · rw [decide_eq_false h1, if_neg (by intro h; exact h1 h.1)]; rfl
set_option maxRecDepth 100000 in
set_option maxHeartbeats 1600000 in
theorem l06Body_any (n : Int) (s : ByteArray) (w : World) (hf : fCode n = 0) (hs : s.size ≤ 20000) :
    Calls Tryz.prog 33 #[.int .i64 n, .string s] w fun e w' => e = .returned (.bool (bdB n s)) ∧ Below w.heap.size w w' := by
  have HRB := l02ReadBatch_any s w (by omega)
  have HSM : Hid ((tbX (bys s)).rs.length ≤ 255) := (tbX_small (bys s) (bys_range s) (by rw [bys_length]; omega)).2
  have HE : Hid (bdB n s = (rbOK (bys s) && ((tbX (bys s)).nl || good n ((tbX (bys s)).rs.map cv)))) := rfl
  have HF : Hid (fCode n = 0) := hf
  clear hf hs
  generalize bdB n s = out at HE ⊢
  generalize rbOK (bys s) = ok at HRB HE
  generalize tbX (bys s) = Y at HRB HE HSM
  have HR : Hid (Calls Tryz.prog 64 #[.string s] w fun e w' => ∃ (x : Bv) (u : Value), e = .returned (.tuple #[.agg #[.bool x.nl, .int .i64 x.c, .int .i64 x.st, .int .i64 x.k, .int .i64 x.l, .string x.n, u], .bool ok]) ∧ (ok = true → x = Y) ∧ OwnR w' w.heap.size u x.rs ∧ Below w.heap.size w w') := HRB
  clear HRB
  go_enter Tryz.func33, Tryz.ntmps33
  go_wp2_with fail
  refine HR.out.mono ?_
  rintro e w1 ⟨X, u, rfl, hX, o1, b1⟩
  have HA : Hid (∀ o, Below w.heap.size w (w1.alloc o)) := fun o => b1.alloc b1.size o
  obtain ⟨ua, ucap, rfl⟩ := RowG.slice (OwnR.row o1)
  cases ok with
  | false =>
    clear hX o1 b1
    go_wp2_with fail
    go_ret
    exact ⟨ret_b (by rw [HE.out]; rfl), HA.out _⟩
  | true =>
    obtain rfl := hX rfl
    obtain ⟨nl, c, st, k, l, nm, rs⟩ := X
    have HO : Hid (∀ o, Gr.Row (w1.alloc o) (.slice ua rs.length ucap) rs) := fun o => (OwnR.row o1).below (bel_new _ _)
    have HLT : Hid (∀ o, Calls Tryz.prog 65 #[.int .i64 n, .slice ua rs.length ucap] (w1.alloc o) fun e w' => e = .returned (.tuple #[.int .i64 (lOut n (rs.map cv)), .bool (good n (rs.map cv))]) ∧ Below (w1.alloc o).heap.size (w1.alloc o) w') := fun o => Go.Proofs.YtkfiahemgdppfaaGreatDoor.Ts.l04Time_any n _ (rs.map cv) _ HF.out (row_r (HO.out o)) (by rw [List.length_map]; have h2 : rs.length ≤ 255 := HSM.out; omega)
    clear HO o1 b1 HSM
    generalize good n (rs.map cv) = gd at HLT HE
    generalize lOut n (rs.map cv) = lo at HLT
    cases nl with
    | true =>
      go_wp2_with fail
      go_ret
      exact ⟨ret_b (by rw [HE.out]; rfl), HA.out _⟩
    | false =>
      go_wp2_with fail
      refine (HLT.out _).mono ?_
      rintro e w2 ⟨rfl, b2⟩
      have B2 : Hid (Below w.heap.size w w2) := (HA.out _).trans (b2.mono (HA.out _).size)
      clear b2
      go_wp2_with fail
      go_ret
      exact ⟨ret_b (by rw [HE.out]; rfl), B2.out⟩
set_option maxRecDepth 100000 in
set_option maxHeartbeats 1600000 in
theorem implBodyOK_any (n : Int) (s : ByteArray) (w : World) (hf : fCode n = 0) (hs : s.size ≤ 1048576) (hK : KTab w) (hp : 0 < w.heap.size) :
    Calls Tryz.prog 73 #[.int .i64 n, .string s] w fun e w' => e = .returned (.bool (bdP n s)) ∧ Below w.heap.size w w' := by
  obtain ⟨v2, w2, hcv, r2, b2⟩ := bytes_run s w
  have HRB := implReadBatch_any v2 (bys s) w2 r2 (by rw [bys_length]; omega)
  have GK : Hid (KTab w ∧ 0 < w.heap.size) := ⟨hK, hp⟩
  have B2 : Hid (Below w.heap.size w w2) := b2
  have HF : Hid (fCode n = 0) := hf
  clear hK hp b2 r2 hf
  by_cases hc : rbC (bys s) = 0
  · obtain ⟨h65, hok⟩ := c_zero.1 hc
    have h20 := ok_small h65 hok
    have HSM : Hid ((tbX (bys s)).rs.length ≤ 255) := (tbX_small (bys s) (bys_range s) (by rw [bys_length]; omega)).2
    have HE : Hid (bdP n s = ((tbX (bys s)).nl || good n ((tbX (bys s)).rs.map cv))) := by show _ = _; unfold bdP bdB; rw [decide_eq_true h20, hok]; rfl
    rw [x_ok hc, hc] at HRB
    generalize bdP n s = out at HE ⊢
    generalize tbX (bys s) = Y at HRB HE HSM
    obtain ⟨nl, c, st, k, l, nm, rs⟩ := Y
    have HR : Hid (Calls Tryz.prog 106 #[v2] w2 fun e w' => ∃ u, e = .returned (.tuple #[.agg #[.bool nl, .int .i64 c, .int .i64 st, .int .i64 k, .int .i64 l, .string nm, u], .int .i64 0]) ∧ OwnR w' w2.heap.size u rs ∧ Below w2.heap.size w2 w') := HRB
    clear HRB hc h65 hok h20 hs
    go_enter Tryz.func73, Tryz.ntmps73
    go_wp2_with fail
    refine HR.out.mono ?_
    rintro e w3 ⟨u, rfl, o3, b3⟩
    have HA : Hid (∀ o, Below w.heap.size w (w3.alloc o)) := fun o => (B2.out.trans (b3.mono B2.out.size)).alloc (B2.out.trans (b3.mono B2.out.size)).size o
    obtain ⟨ua, ucap, rfl⟩ := RowG.slice (OwnR.row o3)
    have HO : Hid (∀ o, Gr.Row (w3.alloc o) (.slice ua rs.length ucap) rs) := fun o => (OwnR.row o3).below (bel_new _ _)
    have HL : Hid ((rs.map cv).length ≤ 4096) := by show _ ≤ _; rw [List.length_map]; have h2 : rs.length ≤ 255 := HSM.out; omega
    have HRT : Hid (∀ o, Calls Tryz.prog 107 #[.int .i64 n, .slice ua rs.length ucap] (w3.alloc o) fun e w' => e = .returned (.tuple #[.int .i64 (tOut n (rs.map cv)), .int .i64 (tCode n (rs.map cv))]) ∧ Below (w3.alloc o).heap.size (w3.alloc o) w') := fun o => implReadingsTime_any n _ (rs.map cv) _ (row_r (HO.out o)) (by have := HL.out; omega) (GK.out.1.below (HA.out o) GK.out.2) (Nat.lt_of_lt_of_le GK.out.2 (HA.out o).size)
    have HTG : Hid (((tCode n (rs.map cv) == 0) : Bool) = good n (rs.map cv)) := t_good HF.out HL.out
    clear HO HL o3 b3 HSM
    generalize good n (rs.map cv) = gd at HTG HE
    generalize tCode n (rs.map cv) = tc at HRT HTG
    generalize tOut n (rs.map cv) = lo at HRT
    cases nl with
    | true =>
      go_wp2_with fail
      go_ret
      exact ⟨ret_b (by rw [HE.out]; rfl), HA.out _⟩
    | false =>
      go_wp2_with fail
      refine (HRT.out _).mono ?_
      rintro e w4 ⟨rfl, b4⟩
      have B4 : Hid (Below w.heap.size w w4) := (HA.out _).trans (b4.mono (HA.out _).size)
      clear b4
      go_wp2_with fail
      go_ret
      exact ⟨ret_b (by rw [HE.out, HTG.out]; rfl), B4.out⟩
  · have HE : Hid (bdP n s = false) := by
      show _ = _
      unfold bdP bdB
      by_cases h20 : s.size ≤ 20000
      · have : rbOK (bys s) = false := by
          cases e : rbOK (bys s) with
          | false => rfl
          | true => exact absurd (c_zero.2 ⟨by omega, e⟩) hc
        rw [this, Bool.false_and, Bool.and_false]
      · rw [decide_eq_false h20]; rfl
    have hc' : (rbC (bys s) != 0) = true := by simp [hc]
    generalize bdP n s = out at HE ⊢
    generalize rbC (bys s) = C at HRB hc hc'
    generalize rbX (bys s) = Y at HRB
    obtain ⟨nl, c, st, k, l, nm, rs⟩ := Y
    have HR : Hid (Calls Tryz.prog 106 #[v2] w2 fun e w' => ∃ u, e = .returned (.tuple #[.agg #[.bool nl, .int .i64 c, .int .i64 st, .int .i64 k, .int .i64 l, .string nm, u], .int .i64 C]) ∧ OwnR w' w2.heap.size u rs ∧ Below w2.heap.size w2 w') := HRB
    clear HRB hc hs
    go_enter Tryz.func73, Tryz.ntmps73
    go_wp2_with fail
    refine HR.out.mono ?_
    rintro e w3 ⟨u, rfl, o3, b3⟩
    have HA : Hid (∀ o, Below w.heap.size w (w3.alloc o)) := fun o => (B2.out.trans (b3.mono B2.out.size)).alloc (B2.out.trans (b3.mono B2.out.size)).size o
    obtain ⟨ua, ucap, rfl⟩ := RowG.slice (OwnR.row o3)
    clear o3 b3
    go_wp2_with fail
    go_ret
    exact ⟨ret_b HE.out.symm, HA.out _⟩
end Go.Proofs.YtkfiahemgdppfaaGreatDoor.Bw

/- BodyDigest of the program and of the specification. -/
namespace Go.Proofs.YtkfiahemgdppfaaGreatDoor.Bd
open Go.RowKit Go.Proofs.YtkfiahemgdppfaaGreatDoor.Sl Go.Proofs.YtkfiahemgdppfaaGreatDoor.By Go.Proofs.YtkfiahemgdppfaaGreatDoor.Ap Go.Proofs.YtkfiahemgdppfaaGreatDoor.Tx Go.Proofs.YtkfiahemgdppfaaGreatDoor.Sh Go.Proofs.YtkfiahemgdppfaaGreatDoor.Ho

def bBt : ByteArray := ⟨#[98, 97, 116, 99, 104]⟩
/-- The digest of a body. -/
def dig (s : ByteArray) : ByteArray := hashS (bys bBt ++ bys s)
def dOut (s : ByteArray) : ByteArray := if (65531 : Int) < (s.size : Int) then ⟨#[]⟩ else dig s
def dCode (s : ByteArray) : Int := if (65531 : Int) < (s.size : Int) then 2 else 0
theorem ret_sc {s t : ByteArray} {a b : Int} (h : s = t ∧ a = b) : Ending.returned (.tuple #[.string s, .int .i64 a]) = .returned (.tuple #[.string t, .int .i64 b]) := by rw [h.1, h.2]
theorem bt_len (s : ByteArray) : (bys bBt ++ bys s).length = 5 + s.size := by
  rw [List.length_append, bys_length, bys_length]; rfl
theorem hash1_any (v : Value) (xs : List Int) (w : World) (h : RowB w v xs) (hl : xs.length ≤ 65536) :
    Calls Tryz.prog 104 #[v] w fun e w' => e = .returned (.string (hashS xs)) ∧ Below w.heap.size w w' := by
  have e : hashS xs = strOfNums (sha xs) := if_neg (by omega)
  rw [e]
  exact l01Hash_any v xs w h hl
set_option maxRecDepth 100000 in
set_option maxHeartbeats 400000 in
theorem implBodyDigest_any (s : ByteArray) (w : World) (hK : KTab w) (hp : 0 < w.heap.size) :
    Calls Tryz.prog 90 #[.string s] w fun e w' => e = .returned (.tuple #[.string (dOut s), .int .i64 (dCode s)]) ∧ Below w.heap.size w w' := by
  have GK : Hid (KTab w) := hK
  clear hK
  by_cases h : (65531 : Int) < (s.size : Int)
  · have HE : Hid (⟨#[]⟩ = dOut s ∧ 2 = dCode s) := ⟨by unfold dOut; rw [if_pos h], by unfold dCode; rw [if_pos h]⟩
    go_enter Tryz.func90, Tryz.ntmps90
    go_wp2_with fail
    go_ret2
    exact ⟨ret_sc HE.out, Below.refl _ _⟩
  · have HE : Hid (dig s = dOut s ∧ 0 = dCode s) := ⟨by unfold dOut; rw [if_neg h], by unfold dCode; rw [if_neg h]⟩
    have HCT : Hid (cat [bBt, s] = bys bBt ++ bys s) := by
      show _ = _
      unfold cat
      simp only [List.flatMap_cons, List.flatMap_nil, List.append_nil]
    have HD : Hid (hashS (bys bBt ++ bys s) = dig s) := rfl
    go_enter Tryz.func90, Tryz.ntmps90
    go_wp2_with fail
    refine (hashOf_lit w _ 2 rfl _ [bBt, s] rfl rfl (by decide) (by decide) (by rw [HCT.out, bt_len]; omega) GK.out hp).mono ?_
    rintro e w1 ⟨rfl, b1⟩
    rw [HCT.out, HD.out]
    go_wp2_with fail
    go_ret2
    exact ⟨ret_sc HE.out, b1⟩
set_option maxRecDepth 100000 in
set_option maxHeartbeats 400000 in
theorem l06Digest_any (s : ByteArray) (w : World) (h : s.size ≤ 65531) :
    Calls Tryz.prog 67 #[.string s] w fun e w' => e = .returned (.string (dig s)) ∧ Below w.heap.size w w' := by
  have hA : ¬ 9223372036854775807 < (⟨#[98, 97, 116, 99, 104]⟩ : ByteArray).size + s.size := by have : (⟨#[98, 97, 116, 99, 104]⟩ : ByteArray).size = 5 := rfl; omega
  have hA' : ¬ 9223372036854775807 < 5 + s.size := by omega
  obtain ⟨v2, w2, hc2, r2, b2⟩ := bytes_run (bBt ++ s) w
  have hc2' : (convert 9 22 (.string ((⟨#[98, 97, 116, 99, 104]⟩ : ByteArray) ++ s))).run Tryz.prog w = .ok v2 w2 := hc2
  have R2 : Hid (RowB w2 v2 (bys bBt ++ bys s)) := by rw [bys_append] at r2; exact r2
  have B2 : Hid (Below w.heap.size w w2) := b2
  have HD : Hid (hashS (bys bBt ++ bys s) = dig s) := rfl
  clear hc2 r2 b2
  go_enter Tryz.func67, Tryz.ntmps67
  go_wp2_with fail
  refine (hash1_any v2 _ w2 R2.out (by rw [bt_len]; omega)).mono ?_
  rintro e w3 ⟨rfl, b3⟩
  rw [HD.out]
  go_wp2_with fail
  go_ret
  exact ⟨rfl, B2.out.trans (b3.mono B2.out.size)⟩
end Go.Proofs.YtkfiahemgdppfaaGreatDoor.Bd

/- Certificates that are right: the program. -/
namespace Go.Proofs.YtkfiahemgdppfaaGreatDoor.Vt
open Go.RowKit Go.Proofs.YtkfiahemgdppfaaGreatDoor.Gm Go.Proofs.YtkfiahemgdppfaaGreatDoor.Si Go.Proofs.YtkfiahemgdppfaaGreatDoor.Tm Go.Proofs.YtkfiahemgdppfaaGreatDoor.Ms Go.Proofs.YtkfiahemgdppfaaGreatDoor.Sh
open Go.Proofs.YtkfiahemgdppfaaGreatDoor.Qm (qOut)
open Go.Proofs.YtkfiahemgdppfaaGreatDoor.Bd (dig dOut dCode implBodyDigest_any)
open Go.Proofs.YtkfiahemgdppfaaGreatDoor.Bw (bdB bdP implBodyOK_any)
open Go.Proofs.YtkfiahemgdppfaaGreatDoor.Rg (RowG RowG.slice RowG.at lt_at mem_at blk_cell blk_set bel_new)

theorem list_eq_bytes {a b : ByteArray} : (a.toList == b.toList) = bOf (a = b) := by
  by_cases h : a = b
  · rw [h, bOf_true rfl]; simp
  · rw [bOf_false h]
    apply beq_eq_false_iff_ne.2
    intro hh
    rw [Lib.toList_data, Lib.toList_data] at hh
    apply h
    cases a
    cases b
    have h2 := Array.toList_inj.1 hh
    simp only at h2
    rw [h2]
theorem guardB (op : BinOp) (a b : Operand) (xs ys : Array Value) (W : World) : (eqGuard op 99 a b (.agg xs) (.agg ys)).run Tryz.prog W = .ok () W := run_eqGuard_agg W op 99 a b xs ys (by kernel_rfl)
set_option maxRecDepth 100000 in
theorem neqB (v1 s1 : Int) (d1 : ByteArray) (v2 s2 : Int) (d2 : ByteArray) (W : World) : (binOp .neq 99 (.agg #[.int .i64 v1, .int .i64 s1, .string d1]) (.agg #[.int .i64 v2, .int .i64 s2, .string d2])).run Tryz.prog W = .ok (.bool (bOf (¬ (v1 = v2 ∧ s1 = s2 ∧ d1 = d2)))) W := by
  have e : bOf (¬ (v1 = v2 ∧ s1 = s2 ∧ d1 = d2)) = !((v1 == v2) && (s1 == s2 && (d1.toList == d2.toList))) := by
    rw [list_eq_bytes]
    by_cases h : v1 = v2 ∧ s1 = s2 ∧ d1 = d2
    · rw [bOf_false (fun hh => hh h), bOf_true h.2.2, h.1, h.2.1]; simp
    · rw [bOf_true h]
      by_cases h1 : v1 = v2
      · by_cases h2 : s1 = s2
        · rw [bOf_false (fun h3 => h ⟨h1, h2, h3⟩)]; simp
        · simp [h2]
      · simp [h1]
  rw [e, run_neq_struct, run_equalIn_struct W 9999 99 _ _ (by kernel_rfl) (by kernel_rfl)]
  simp [go_sem, Program.fieldsOf, Tryz.underlying99, Tryz.underlying3, Tryz.underlying9]
  repeat' split
  all_goals simp_all
theorem taP (v : Value) (W : World) : (Instr.typeAssert (.iface 108 v) 67 108 true).run Tryz.prog W = .ok (.tuple #[v, .bool true]) W := by
  simp [Instr.typeAssert, go_sem]
theorem taC (v : Value) (W : World) : (Instr.typeAssert (.iface 102 v) 67 108 true).run Tryz.prog W = .ok (.tuple #[.agg #[.int .i64 0, .int .i64 0, .int .i64 0, .string ⟨#[]⟩], .bool false]) W := by
  have hz : (zeroValue 108).run Tryz.prog W = .ok (.agg #[.int .i64 0, .int .i64 0, .int .i64 0, .string ⟨#[]⟩]) W := by kernel_rfl
  simp [Instr.typeAssert, go_sem, hz]
/-- A vote prepares this batch at this place. -/
def ForB (vw sq : Int) (d : ByteArray) (x : Mg) : Prop := x.kd = 2 ∧ x.vw = vw ∧ x.sq = sq ∧ x.dg = d
def AllB (vw sq : Int) (d : ByteArray) (ms : List Mg) : Prop := ∀ j x, j < ms.length → ms[j]? = some x → ForB vw sq d x
set_option maxRecDepth 100000 in
set_option maxHeartbeats 1600000 in
theorem allFor_any (n vw sq : Int) (d : ByteArray) (v : Value) (ms : List Mg) (B : Nat) (w : World) (h : OwnV w B v (vts n ms)) (hv : ∀ x ∈ ms, isV n x = true) (hl : ms.length ≤ 1048576) :
    Calls Tryz.prog 108 #[v, .agg #[.int .i64 vw, .int .i64 sq, .string d]] w fun e w' => e = .returned (.bool (bOf (AllB vw sq d ms))) ∧ Below w.heap.size w w' := by
  have HR : Hid (OwnV w B v (vts n ms)) := h
  obtain ⟨a, cap, rfl⟩ := OwnV.slice h
  have HVL : (vts n ms).length = ms.length := by unfold vts; rw [List.length_map]
  have HVA : Hid (∀ k x, ms[k]? = some x → (vts n ms)[k]? = some (votV n x)) := fun k x hx => by unfold vts; rw [List.getElem?_map, hx]; rfl
  have HVV : Hid (∀ x ∈ ms, isV n x = true) := hv
  rw [HVL] at HR ⊢
  clear h hv HVL
  have HB : Hid (Below w.heap.size w (w.alloc (.cells #[.int .i64 vw, .int .i64 sq, .string d] 99))) := bel_new _ _
  have HXC : Hid (∀ W, Below (w.alloc (.cells #[.int .i64 vw, .int .i64 sq, .string d] 99)).heap.size (w.alloc (.cells #[.int .i64 vw, .int .i64 sq, .string d] 99)) W → W.cell? ⟨w.heap.size, 0, none⟩ = some (.int .i64 vw) ∧ W.cell? ⟨w.heap.size, 1, none⟩ = some (.int .i64 sq) ∧ W.cell? ⟨w.heap.size, 2, none⟩ = some (.string d)) := fun W hW => by
    have h1 := (hW.block w.heap.size (by simp)).trans (heap_alloc_new w _)
    exact ⟨(blk_cell h1 0 rfl).1, (blk_cell h1 1 rfl).1, (blk_cell h1 2 rfl).1⟩
  go_enter Tryz.func108, Tryz.ntmps108
  go_wp2_with fail
  generalize w.alloc (.cells #[.int .i64 vw, .int .i64 sq, .string d] 99) = wb at HB HXC ⊢
  go_loopw [11] (fun i wr => ∃ k : Nat, k ≤ ms.length ∧ i = .int .i64 k ∧ Hid ((∀ j x, j < k → ms[j]? = some x → ForB vw sq d x) ∧ Below wb.heap.size wb wr)) (fun i _ => ms.length - (intOf i).toNat)
  case atStart => exact ⟨0, by omega, rfl, ⟨fun j x hj => by omega, Below.refl _ _⟩⟩
  case round =>
    obtain ⟨k, hk, rfl, HZ⟩ := hrel
    have HBW : Hid (∀ o, Below w.heap.size w (wr.alloc o)) := fun o => (HB.out.trans (HZ.out.2.mono HB.out.size)).alloc (HB.out.trans (HZ.out.2.mono HB.out.size)).size o
    have HBO : Hid (∀ o, Below wb.heap.size wb (wr.alloc o)) := fun o => HZ.out.2.alloc HZ.out.2.size o
    by_cases hlt : k < ms.length
    · obtain ⟨x, hx⟩ := Rg.get_at hlt
      obtain ⟨g, rfl, hg, c0⟩ := OwnV.at (HR.out.below (HB.out.trans (HZ.out.2.mono HB.out.size))) (HVA.out k x hx)
      have hv := HVV.out x (mem_at hx)
      unfold isV at hv
      rw [Bool.and_eq_true, Bool.or_eq_true, beq_iff_eq, beq_iff_eq] at hv
      obtain ⟨hs, hkd⟩ := hv
      by_cases h2 : x.kd = 2
      · have e : votV n x = .iface 108 (.agg #[.int .i64 x.fr, .int .i64 x.vw, .int .i64 x.sq, .string x.dg]) := by unfold votV; rw [if_pos hs, if_pos h2]; rfl
        rw [e] at c0
        have hq1 := neqB x.vw x.sq x.dg vw sq d
        have hq2 := guardB
        have hta := fun v => taP v wr
        have HD : Hid (∀ o, (wr.alloc o).cell? ⟨w.heap.size, 0, none⟩ = some (.int .i64 vw) ∧ (wr.alloc o).cell? ⟨w.heap.size, 1, none⟩ = some (.int .i64 sq) ∧ (wr.alloc o).cell? ⟨w.heap.size, 2, none⟩ = some (.string d)) := fun o => HXC.out _ (HBO.out o)
        have d0 := fun o => (HD.out o).1
        have d1 := fun o => (HD.out o).2.1
        have d2 := fun o => (HD.out o).2.2
        by_cases hq : x.vw = vw ∧ x.sq = sq ∧ x.dg = d
        · have HK : Hid (∀ j y, j < k + 1 → ms[j]? = some y → ForB vw sq d y) := fun j y hj hy => by
            by_cases ej : j = k
            · subst ej; rw [hx] at hy; cases hy; exact ⟨h2, hq⟩
            · exact HZ.out.1 j y (by omega) hy
          rw [bOf_false (fun hh => hh hq)] at hq1
          clear hq h2 hs hkd hx e
          go_wp2_with fail
          exact ⟨⟨k + 1, by omega, by go_num, ⟨HK.out, HBO.out _⟩⟩, by simp [intOf]; omega⟩
        · have HF : Hid (bOf (AllB vw sq d ms) = false) := bOf_false fun hh => hq (hh k x hlt hx).2
          rw [bOf_true hq] at hq1
          clear hq h2 hs hkd hx e
          go_wp2_with fail
          go_ret
          exact ⟨ret_b HF.out.symm, HBW.out _⟩
      · have h4 : x.kd = 4 := hkd.resolve_left h2
        have e : votV n x = .iface 102 (.agg #[.int .i64 x.fr, .int .i64 x.vw, .string x.bd]) := by unfold votV; rw [if_pos hs, if_neg h2, if_pos h4]; rfl
        rw [e] at c0
        have HF : Hid (bOf (AllB vw sq d ms) = false) := bOf_false fun hh => h2 (hh k x hlt hx).1
        clear h2 h4 hs hkd hx e
        have hta := fun v => taC v wr
        go_wp2_with fail
        go_ret
        exact ⟨ret_b HF.out.symm, HBW.out _⟩
    · obtain rfl : k = ms.length := by omega
      have HF : Hid (bOf (AllB vw sq d ms) = true) := bOf_true HZ.out.1
      go_wp2_with fail
      go_ret
      exact ⟨ret_b HF.out.symm, HB.out.trans (HZ.out.2.mono HB.out.size)⟩
set_option maxRecDepth 100000 in
set_option maxHeartbeats 1600000 in
theorem ballotOf_any (bd : ByteArray) (vr : Value) (ms : List Mg) (x : Mg) (w : World) (h : Row w vr ms) (hx : ms[0]? = some x) (hK : KTab w) (hp : 0 < w.heap.size) :
    Calls Tryz.prog 57 #[.agg #[.string bd, vr]] w fun e w' => e = .returned (.agg #[.int .i64 x.vw, .int .i64 x.sq, .string (dOut bd)]) ∧ Below w.heap.size w w' := by
  have HR : Hid (Row w vr ms) := h
  obtain ⟨a, cap, rfl⟩ := RowG.slice h
  have hn0 : (0 : Int) < (ms.length : Int) := by have := lt_at hx; omega
  have hn1 : 0 < ms.length := lt_at hx
  have HX : Hid (∀ W, Below ((w.alloc (.cells #[.string bd, .slice a ms.length cap] 37)).alloc (.cells #[.int .i64 0, .int .i64 0, .string ⟨#[]⟩] 99)).heap.size ((w.alloc (.cells #[.string bd, .slice a ms.length cap] 37)).alloc (.cells #[.int .i64 0, .int .i64 0, .string ⟨#[]⟩] 99)) W → W.heap[w.heap.size]? = some (.cells #[.string bd, .slice a ms.length cap] 37 (0, 0)) ∧ W.heap[w.heap.size + 1]? = some (.cells #[.int .i64 0, .int .i64 0, .string ⟨#[]⟩] 99 (0, 0)) ∧ Below w.heap.size w W) := fun W hW => by
    have q1 := hW.block w.heap.size (by simp; omega)
    have q2 := hW.block (w.heap.size + 1) (by simp)
    have b2 := (bel_new w (.cells #[.string bd, .slice a ms.length cap] 37)).trans ((bel_new (w.alloc (.cells #[.string bd, .slice a ms.length cap] 37)) (.cells #[.int .i64 0, .int .i64 0, .string ⟨#[]⟩] 99)).mono (bel_new w _).size)
    refine ⟨q1.trans ?_, q2.trans ?_, b2.trans (hW.mono b2.size)⟩
    · exact ((bel_new (w.alloc (.cells #[.string bd, .slice a ms.length cap] 37)) _).block w.heap.size (by simp)).trans (heap_alloc_new w _)
    · have := heap_alloc_new (w.alloc (.cells #[.string bd, .slice a ms.length cap] 37)) (.cells #[.int .i64 0, .int .i64 0, .string ⟨#[]⟩] 99)
      rw [Rg.size_new] at this
      exact this
  have HDG : Hid (∀ W, Below w.heap.size w W → Calls Tryz.prog 90 #[.string bd] W fun e w' => e = .returned (.tuple #[.string (dOut bd), .int .i64 (dCode bd)]) ∧ Below W.heap.size W w') := fun W hW => implBodyDigest_any bd W (hK.below hW hp) (Nat.lt_of_lt_of_le hp hW.size)
  obtain ⟨dd, HDD⟩ : ∃ dd, Hid (dOut bd = dd) := ⟨_, rfl⟩
  obtain ⟨dc, HDC⟩ : ∃ dc, Hid (dCode bd = dc) := ⟨_, rfl⟩
  rw [HDD.out, HDC.out] at HDG
  rw [HDD.out]
  have HXX : Hid (ms[0]? = some x) := hx
  clear h hK hp hx
  go_enter Tryz.func57, Tryz.ntmps57
  go_wp2_with fail
  generalize (w.alloc (.cells #[.string bd, .slice a ms.length cap] 37)).alloc (.cells #[.int .i64 0, .int .i64 0, .string ⟨#[]⟩] 99) = wb at HX ⊢
  refine (HDG.out _ (HX.out _ (Below.refl _ _)).2.2).mono ?_
  rintro e w1 ⟨rfl, b1⟩
  obtain ⟨q1, q2, q3⟩ := HX.out _ b1
  have G : Hid (w1.heap[w.heap.size + 1]? = some (.cells #[.int .i64 0, .int .i64 0, .string ⟨#[]⟩] 99 (0, 0)) ∧ Below w.heap.size w w1) := ⟨q2, q3⟩
  have c1 := (blk_cell q1 1 (x := .slice a ms.length cap) rfl).1
  obtain ⟨b, off, rfl, hbl, x0, x1, x2, x3, x4, x5, x6⟩ := RowG.at (HR.out.below q3) rfl HXX.out
  clear x0 x3 x4 x5 x6 q1 q2 q3 b1 HX
  go_wp2_with fail
  refine Qt.region_quiet_tail 12 (by kernel_rfl) (by kernel_rfl) ?_
  simp only [List.take_succ_cons, List.take_zero, List.drop_succ_cons, List.drop_zero]
  repeat (go_big_quiet_step (fail))
  refine wpQuiet_nil ?_
  obtain ⟨e0, f0⟩ := blk_cell G.out.1 0 (x := .int .i64 0) rfl
  obtain ⟨e1, f1⟩ := blk_cell G.out.1 1 (x := .int .i64 0) rfl
  obtain ⟨e2, f2⟩ := blk_cell G.out.1 2 (x := .string ⟨#[]⟩) rfl
  have AF : (((w1.setCell ⟨w.heap.size + 1, 0, none⟩ (.int .i64 x.vw)).setCell ⟨w.heap.size + 1, 1, none⟩ (.int .i64 x.sq)).setCell ⟨w.heap.size + 1, 2, none⟩ (.string dd)).heap[w.heap.size + 1]? = some (.cells #[.int .i64 x.vw, .int .i64 x.sq, .string dd] 99 (0, 0)) := blk_set (blk_set (blk_set G.out.1 0 (.int .i64 x.vw)) 1 (.int .i64 x.sq)) 2 (.string dd)
  have GF : Below w.heap.size w (((w1.setCell ⟨w.heap.size + 1, 0, none⟩ (.int .i64 x.vw)).setCell ⟨w.heap.size + 1, 1, none⟩ (.int .i64 x.sq)).setCell ⟨w.heap.size + 1, 2, none⟩ (.string dd)) := Below.setCell (Below.setCell (Below.setCell G.out.2 (p := ⟨w.heap.size + 1, 0, none⟩) (Nat.le_succ _) (.int .i64 x.vw)) (p := ⟨w.heap.size + 1, 1, none⟩) (Nat.le_succ _) (.int .i64 x.sq)) (p := ⟨w.heap.size + 1, 2, none⟩) (Nat.le_succ _) (.string dd)
  go_wp2_with fail
  generalize (((w1.setCell ⟨w.heap.size + 1, 0, none⟩ (.int .i64 x.vw)).setCell ⟨w.heap.size + 1, 1, none⟩ (.int .i64 x.sq)).setCell ⟨w.heap.size + 1, 2, none⟩ (.string dd)) = wf at AF GF ⊢
  have AF2 : wf.drew.heap[w.heap.size + 1]? = some (.cells #[.int .i64 x.vw, .int .i64 x.sq, .string dd] 99 (0, 0)) := AF
  have GF2 : Below w.heap.size w wf.drew := GF.drew
  clear AF GF
  generalize wf.drew = wg at AF2 GF2 ⊢
  have d0 := (blk_cell AF2 0 (x := .int .i64 x.vw) rfl).1
  have d1 := (blk_cell AF2 1 (x := .int .i64 x.sq) rfl).1
  have d2 := (blk_cell AF2 2 (x := .string dd) rfl).1
  exact bodyPost_ret (v := .agg #[.int .i64 x.vw, .int .i64 x.sq, .string dd]) (by simp [results, Tryz.results57, go_sem, d0, d1, d2]) rfl ⟨rfl, GF2⟩
/-- A certificate is right. -/
def CertP (n : Int) (bd : ByteArray) (ms : List Mg) : Prop := fCode n = 0 ∧ (ms.length : Int) = qOut n ∧ bdP n bd = true ∧ (∃ x, ms[0]? = some x ∧ ∀ y ∈ ms, sg n y = true ∧ ForB x.vw x.sq (dig bd) y) ∧ Rise ms ms.length
noncomputable def crtB (n : Int) (bd : ByteArray) (ms : List Mg) : Bool := bOf (CertP n bd ms)
theorem q_pos {n : Int} (h : fCode n = 0) : 1 ≤ qOut n ∧ qOut n ≤ 5 := by
  rcases f_cases n with rfl | rfl | rfl | ⟨_, _, _, _, hd⟩
  · exact ⟨by decide, by decide⟩
  · exact ⟨by decide, by decide⟩
  · exact ⟨by decide, by decide⟩
  · omega
theorem crt_q {n : Int} {bd : ByteArray} {ms : List Mg} (h : qvB n ms = false) : crtB n bd ms = false := bOf_false fun ⟨h1, h2, _, ⟨x, _, h4⟩, h5⟩ => by
  have : qvB n ms = true := qv_iff.2 ⟨h1, h2, fun y hy => by
    obtain ⟨a1, a2, _⟩ := h4 y hy
    unfold isV; rw [a1, a2]; rfl, h5⟩
  rw [this] at h; cases h
theorem crt_b {n : Int} {bd : ByteArray} {ms : List Mg} (h : bdP n bd = false) : crtB n bd ms = false := bOf_false fun ⟨_, _, h3, _, _⟩ => by rw [h] at h3; cases h3
theorem dig_out {n : Int} {bd : ByteArray} (h : bdP n bd = true) : dOut bd = dig bd := by
  unfold bdP at h
  rw [Bool.and_eq_true, decide_eq_true_eq] at h
  unfold dOut
  rw [if_neg (by omega)]
theorem crt_all {n : Int} {bd : ByteArray} {ms : List Mg} {x : Mg} (h1 : qvB n ms = true) (h2 : bdP n bd = true) (hx : ms[0]? = some x) : crtB n bd ms = bOf (AllB x.vw x.sq (dOut bd) ms) := by
  obtain ⟨a1, a2, a3, a4⟩ := qv_iff.1 h1
  rw [dig_out h2]
  refine (bOf_eq (p := CertP n bd ms) ?_).symm
  rw [bOf_iff]
  constructor
  · intro h
    refine ⟨a1, a2, h2, ⟨x, hx, fun y hy => ⟨?_, ?_⟩⟩, a4⟩
    · have := a3 y hy
      unfold isV at this
      rw [Bool.and_eq_true] at this
      exact this.1
    · obtain ⟨j, hj, e⟩ := List.getElem_of_mem hy
      exact h j y hj (by rw [List.getElem?_eq_getElem hj, e])
  · rintro ⟨_, _, _, ⟨z, hz, h⟩, _⟩ j y hj hy
    rw [hx] at hz
    cases hz
    exact (h y (mem_at hy)).2
set_option maxRecDepth 100000 in
set_option maxHeartbeats 1600000 in
theorem implCertOK_any (n : Int) (bd : ByteArray) (vr : Value) (ms : List Mg) (w : World) (h : Row w vr ms) (hl : ms.length ≤ 1048576) (hb : bd.size ≤ 1048576) (hK : KTab w) (hp : 0 < w.heap.size) :
    Calls Tryz.prog 76 #[.int .i64 n, .agg #[.string bd, vr]] w fun e w' => e = .returned (.bool (crtB n bd ms)) ∧ Below w.heap.size w w' := by
  have HR : Hid (Row w vr ms) := h
  obtain ⟨a, cap, rfl⟩ := RowG.slice h
  have HX : Hid (∀ W, Below (w.alloc (.cells #[.string bd, .slice a ms.length cap] 37)).heap.size (w.alloc (.cells #[.string bd, .slice a ms.length cap] 37)) W → W.cell? ⟨w.heap.size, 0, none⟩ = some (.string bd) ∧ W.cell? ⟨w.heap.size, 1, none⟩ = some (.slice a ms.length cap) ∧ Below w.heap.size w W) := fun W hW => by
    have h1 := (hW.block w.heap.size (by simp)).trans (heap_alloc_new w _)
    exact ⟨(blk_cell h1 0 rfl).1, (blk_cell h1 1 rfl).1, (bel_new w _).trans (hW.mono (by simp))⟩
  have GK : Hid (∀ W, Below w.heap.size w W → KTab W ∧ 0 < W.heap.size) := fun W hW => ⟨hK.below hW hp, Nat.lt_of_lt_of_le hp hW.size⟩
  have HQV : Hid (∀ W, Below w.heap.size w W → Calls Tryz.prog 56 #[.int .i64 n, .slice a ms.length cap] W fun e w' => ∃ u, e = .returned (.tuple #[u, .bool (qvB n ms)]) ∧ (qvB n ms = true → OwnV w' W.heap.size u (vts n ms)) ∧ Below W.heap.size W w') := fun W hW => quorumVotes_any n _ ms W (HR.out.below hW) hl (GK.out W hW).1 (GK.out W hW).2
  have HL : Hid (ms.length ≤ 1048576) := hl
  clear h hK hp hl
  cases hq : qvB n ms with
  | false =>
    have HE : Hid (crtB n bd ms = false) := crt_q hq
    rw [hq] at HQV
    clear hq
    go_enter Tryz.func76, Tryz.ntmps76
    go_wp2_with fail
    generalize w.alloc (.cells #[.string bd, .slice a ms.length cap] 37) = wb at HX ⊢
    refine (HQV.out _ (HX.out _ (Below.refl _ _)).2.2).mono ?_
    rintro e w1 ⟨u, rfl, -, b1⟩
    have G1 : Hid (Below w.heap.size w w1) := (HX.out _ b1).2.2
    clear b1
    go_wp2_with fail
    go_ret
    exact ⟨ret_b HE.out.symm, G1.out⟩
  | true =>
    obtain ⟨hf, hlen, hall, _⟩ := qv_iff.1 hq
    obtain ⟨x, hx⟩ := Rg.get_at (xs := ms) (k := 0) (by have := (q_pos hf).1; omega)
    have HBO : Hid (∀ W, Below w.heap.size w W → Calls Tryz.prog 73 #[.int .i64 n, .string bd] W fun e w' => e = .returned (.bool (bdP n bd)) ∧ Below W.heap.size W w') := fun W hW => implBodyOK_any n bd W hf hb (GK.out W hW).1 (GK.out W hW).2
    have HBL : Hid (∀ W, Below w.heap.size w W → Calls Tryz.prog 57 #[.agg #[.string bd, .slice a ms.length cap]] W fun e w' => e = .returned (.agg #[.int .i64 x.vw, .int .i64 x.sq, .string (dOut bd)]) ∧ Below W.heap.size W w') := fun W hW => ballotOf_any bd _ ms x W (HR.out.below hW) hx (GK.out W hW).1 (GK.out W hW).2
    have HAF : Hid (∀ W u B, OwnV W B u (vts n ms) → Calls Tryz.prog 108 #[u, .agg #[.int .i64 x.vw, .int .i64 x.sq, .string (dOut bd)]] W fun e w' => e = .returned (.bool (bOf (AllB x.vw x.sq (dOut bd) ms))) ∧ Below W.heap.size W w') := fun W u B ho => allFor_any n x.vw x.sq (dOut bd) u ms B W ho hall HL.out
    cases hbd : bdP n bd with
    | false =>
      have HE : Hid (crtB n bd ms = false) := crt_b hbd
      rw [hq] at HQV
      rw [hbd] at HBO
      clear hq hbd hf hlen hall hx hb HBL HAF
      go_enter Tryz.func76, Tryz.ntmps76
      go_wp2_with fail
      generalize w.alloc (.cells #[.string bd, .slice a ms.length cap] 37) = wb at HX ⊢
      refine (HQV.out _ (HX.out _ (Below.refl _ _)).2.2).mono ?_
      rintro e w1 ⟨u, rfl, -, b1⟩
      have G1 : Hid (Below w.heap.size w w1) := (HX.out _ b1).2.2
      have c0 := (HX.out _ b1).1
      clear b1
      go_wp2_with fail
      refine (HBO.out _ G1.out).mono ?_
      rintro e w2 ⟨rfl, b2⟩
      have G2 : Hid (Below w.heap.size w w2) := G1.out.trans (b2.mono G1.out.size)
      clear b2
      go_wp2_with fail
      go_ret
      exact ⟨ret_b HE.out.symm, G2.out⟩
    | true =>
      have HE : Hid (crtB n bd ms = bOf (AllB x.vw x.sq (dOut bd) ms)) := crt_all hq hbd hx
      rw [hq] at HQV
      rw [hbd] at HBO
      obtain ⟨o, HO⟩ : ∃ o, Hid (bOf (AllB x.vw x.sq (dOut bd) ms) = o) := ⟨_, rfl⟩
      obtain ⟨dd, HDD⟩ : ∃ dd, Hid (dOut bd = dd) := ⟨_, rfl⟩
      rw [HO.out] at HAF HE
      rw [HDD.out] at HAF HBL
      clear hq hbd hf hlen hall hx hb HO HDD
      go_enter Tryz.func76, Tryz.ntmps76
      go_wp2_with fail
      generalize w.alloc (.cells #[.string bd, .slice a ms.length cap] 37) = wb at HX ⊢
      refine (HQV.out _ (HX.out _ (Below.refl _ _)).2.2).mono ?_
      rintro e w1 ⟨u, rfl, o1, b1⟩
      have B1 : Hid (Below wb.heap.size wb w1) := b1
      have O1 : Hid (OwnV w1 wb.heap.size u (vts n ms)) := o1 trivial
      have c0 := (HX.out _ b1).1
      clear b1 o1
      go_wp2_with fail
      refine (HBO.out _ (HX.out _ B1.out).2.2).mono ?_
      rintro e w2 ⟨rfl, b2⟩
      have B2 : Hid (Below wb.heap.size wb w2) := B1.out.trans (b2.mono B1.out.size)
      have O2 : Hid (OwnV w2 wb.heap.size u (vts n ms)) := O1.out.below b2
      have d0 := (HX.out _ B2.out).1
      have d1 := (HX.out _ B2.out).2.1
      clear b2
      go_wp2_with fail
      refine (HBL.out _ (HX.out _ B2.out).2.2).mono ?_
      rintro e w3 ⟨rfl, b3⟩
      have B3 : Hid (Below wb.heap.size wb w3) := B2.out.trans (b3.mono B2.out.size)
      have O3 : Hid (OwnV w3 wb.heap.size u (vts n ms)) := O2.out.below b3
      clear b3
      go_wp2_with fail
      refine (HAF.out _ _ _ O3.out).mono ?_
      rintro e w4 ⟨rfl, b4⟩
      have G4 : Hid (Below w.heap.size w w4) := (HX.out _ (B3.out.trans (b4.mono B3.out.size))).2.2
      clear b4
      go_wp2_with fail
      go_ret
      exact ⟨ret_b HE.out.symm, G4.out⟩
end Go.Proofs.YtkfiahemgdppfaaGreatDoor.Vt

/- Drawn certificates: plain facts. -/
namespace Go.Proofs.YtkfiahemgdppfaaGreatDoor.Dc
open Go.RowKit Go.Proofs.YtkfiahemgdppfaaGreatDoor.Sl Go.Proofs.YtkfiahemgdppfaaGreatDoor.By Go.Proofs.YtkfiahemgdppfaaGreatDoor.Ap Go.Proofs.YtkfiahemgdppfaaGreatDoor.Gm Go.Proofs.YtkfiahemgdppfaaGreatDoor.Si Go.Proofs.YtkfiahemgdppfaaGreatDoor.Tm Go.Proofs.YtkfiahemgdppfaaGreatDoor.Ms Go.Proofs.YtkfiahemgdppfaaGreatDoor.Sh Go.Proofs.YtkfiahemgdppfaaGreatDoor.Vt Go.Proofs.YtkfiahemgdppfaaGreatDoor.Mp Go.Proofs.YtkfiahemgdppfaaGreatDoor.Rq Go.Proofs.YtkfiahemgdppfaaGreatDoor.Tkb Go.Proofs.YtkfiahemgdppfaaGreatDoor.Cb
open Go.Proofs.YtkfiahemgdppfaaGreatDoor.Bd (dig dOut dCode)
open Go.Proofs.YtkfiahemgdppfaaGreatDoor.Bw (bdB bdP)
open Go.Proofs.YtkfiahemgdppfaaGreatDoor.Qm (qOut)
open Go.Proofs.YtkfiahemgdppfaaGreatDoor.Ag (Fine)
open Go.Proofs.YtkfiahemgdppfaaGreatDoor.Bo (rOK r1)
open Go.Proofs.YtkfiahemgdppfaaGreatDoor.Rc (rcOK rcBd rcMs rcCode mOf cOf okT1 allOK msOf)
open Go.Proofs.YtkfiahemgdppfaaGreatDoor.Rl (rdC rdL)
open Go.Proofs.YtkfiahemgdppfaaGreatDoor.Lb (lbOut lbCode listTo lenTo)
open Go.Proofs.YtkfiahemgdppfaaGreatDoor.Ty (tnth)
open Go.Proofs.YtkfiahemgdppfaaGreatDoor.Rg (lt_at mem_at)

theorem fine_drop {us : List Gr.Rd} (h : ∀ j, j < (us.map Ag.cv).length → Rs.okI (us.map Ag.cv) j = true) : ∀ d j, j + d = us.length → rOK (Rs.pv (us.map Ag.cv) j) (us.drop j) = true
  | 0, j, hj => by rw [List.drop_eq_nil_of_le (by omega)]; rfl
  | d + 1, j, hj => by
    obtain ⟨x, hx⟩ := Rg.get_at (xs := us) (k := j) (by omega)
    have ih := fine_drop h d (j + 1) (by omega)
    have ho := h j (by rw [List.length_map]; omega)
    have e := Ag.cv_rn hx
    unfold Rs.okI at ho
    rw [Rs.pv_succ, e] at ih
    rw [e] at ho
    obtain ⟨hk, e2⟩ := List.getElem?_eq_some_iff.1 hx
    rw [List.drop_eq_getElem_cons hk, e2]
    show (r1 _ x && rOK (x.f + 1) (us.drop (j + 1))) = true
    rw [Bool.and_eq_true]
    refine ⟨?_, ih⟩
    unfold r1 inB
    unfold Rm.inR at ho
    simp only [Bool.and_eq_true, decide_eq_true_eq, beq_iff_eq] at ho ⊢
    obtain ⟨⟨a1, a2⟩, ⟨a3, a4⟩, a5⟩ := ho
    have b1 : (Ag.cv x).f = x.f := rfl
    have b2 : (Ag.cv x).x = x.x := rfl
    have b3 : (Ag.cv x).m = x.m := rfl
    rw [b1] at a1 a2
    rw [b2] at a3 a4
    rw [b3] at a5
    exact ⟨⟨a1, a2⟩, ⟨a3, a4⟩, by omega⟩
theorem body_ok {n : Int} {i c st k l : Int} {nm : ByteArray} {us : List Gr.Rd} (hf : fCode n = 0) (hq : reqB c st k l nm = true) (h : Fine n i (us.map Ag.cv)) (hl : (us.length : Int) = 2 * fOut n + 1) : bdP n (strOfNums (Bt.batBs false c st k l nm us)) = true ∧ Bo.bOK false c st k l nm us = true := by
  have hr : rOK 0 us = true := by
    have := fine_drop h.1 us.length 0 (by omega)
    rw [List.drop_zero] at this
    exact this
  have hb : Bo.bOK false c st k l nm us = true := by
    show (reqB c st k l nm && rOK 0 us) = true
    rw [hq, hr]; rfl
  obtain ⟨h1, h2, h3⟩ := Wb.bat_back hb (fun h => by cases h)
  have hbs : bys (strOfNums (Bt.batBs false c st k l nm us)) = Bt.batBs false c st k l nm us := Ho.bys_str _ (Bt.batBs_range _ _ _ _ _ _ _)
  have hsz : (strOfNums (Bt.batBs false c st k l nm us)).size ≤ 200 := by rw [strOfNums_size]; exact h3
  have hc : rbC (bys (strOfNums (Bt.batBs false c st k l nm us))) = 0 := by rw [hbs]; exact h1
  obtain ⟨_, hok⟩ := Bw.c_zero.1 hc
  have hx := Bw.x_ok hc
  rw [hbs, h2] at hx
  have hl5 : us.length ≤ 5 := by have := Ti.f_small n; omega
  have hg : Ts.good n ((us).map Bw.cv) = true := by
    have h4 := (Fine.code h hf (by rw [List.length_map]; exact hl) (by rw [List.length_map]; omega)).1
    have h5 := Bw.t_good (rs := us.map Ag.cv) hf (by rw [List.length_map]; omega)
    rw [h4] at h5
    exact h5.symm
  refine ⟨?_, hb⟩
  unfold bdP bdB
  rw [decide_eq_true (by omega), hok, hbs, ← hx]
  show (true && (true && (false || Ts.good n (us.map Bw.cv)))) = true
  rw [hg]; rfl
theorem body_null (n : Int) : bdP n ⟨#[0]⟩ = true := by
  have hb : bys ⟨#[0]⟩ = [0] := rfl
  obtain ⟨h1, h2⟩ := rb_null (xs := [0]) (by decide) (by rfl)
  unfold bdP bdB
  rw [hb, h1, h2]
  rfl
/-- A vote of node i. -/
def pm (vw sq : Int) (d : ByteArray) (i : Nat) : Mg := ⟨2, vw, sq, i, d, ⟨#[]⟩, mmk 2 vw sq i d ⟨#[]⟩⟩
theorem pm_ok {n vw sq : Int} {d : ByteArray} {i : Nat} (hf : fCode n = 0) (hv : 0 ≤ vw ∧ vw ≤ 20) (hs : 1 ≤ sq ∧ sq ≤ 8) (hd : d.size = 32) (hi : i < 7) (hn : (i : Int) < n) : sg n (pm vw sq d i) = true ∧ mOK (pm vw sq d i) = true := by
  have hz : (mmk 2 vw sq i d ⟨#[]⟩).size = 8 := mmk_size _ _ _ _ _ _ (by omega) (by show (0 : Nat) ≤ _; omega)
  have hm : msgB 2 vw sq i d ⟨#[]⟩ (mmk 2 vw sq i d ⟨#[]⟩) = true := by
    rw [msg_eq, kind2]
    unfold placeB inB
    simp only [Bool.and_eq_true, decide_eq_true_eq, beq_iff_eq]
    refine ⟨hv, ⟨by omega, by omega⟩, by omega, by show ((0 : Nat) : Int) ≤ 20000; omega, ⟨hs, by omega⟩, ?_⟩
    rw [empty_size]; rfl
  constructor
  · unfold sg gB lB pm
    rw [decide_eq_true hf]
    simp only [hm, decide_eq_true hn, Int.toNat_natCast, Bool.true_and, beq_self_eq_true]
  · unfold mOK mB pm
    simp only [hm]
    rfl
/-- Votes of rising nodes. -/
structure Vs8 (n vw sq : Int) (d : ByteArray) (i : Nat) (ms : List Mg) : Prop where
  all : ∀ x ∈ ms, ∃ j : Nat, x = pm vw sq d j ∧ j < i ∧ j < 7 ∧ (j : Int) < n
  rise : Rise ms ms.length
theorem Vs8.nil (n vw sq : Int) (d : ByteArray) : Vs8 n vw sq d 0 [] := ⟨fun x hx => by simp at hx, fun j x y hj => by simp at hj⟩
theorem Vs8.skip {n vw sq : Int} {d : ByteArray} {i : Nat} {ms : List Mg} (h : Vs8 n vw sq d i ms) : Vs8 n vw sq d (i + 1) ms := ⟨fun x hx => by obtain ⟨j, h1, h2, h3⟩ := h.all x hx; exact ⟨j, h1, by omega, h3⟩, h.rise⟩
theorem Vs8.snoc {n vw sq : Int} {d : ByteArray} {i : Nat} {ms : List Mg} (h : Vs8 n vw sq d i ms) (hi : i < 7) (hn : (i : Int) < n) : Vs8 n vw sq d (i + 1) (ms ++ [pm vw sq d i]) := by
  refine ⟨fun x hx => ?_, fun j x y hj hx hy => ?_⟩
  · rcases List.mem_append.1 hx with hx | hx
    · obtain ⟨j, h1, h2, h3⟩ := h.all x hx; exact ⟨j, h1, by omega, h3⟩
    · simp at hx; exact ⟨i, hx, by omega, hi, hn⟩
  · rw [List.length_append] at hj
    simp at hj
    by_cases e : j + 1 < ms.length
    · rw [List.getElem?_append_left (by omega)] at hx
      rw [List.getElem?_append_left e] at hy
      exact h.rise j x y e hx hy
    · have ej : j + 1 = ms.length := by omega
      rw [List.getElem?_append_left (by omega)] at hx
      rw [List.getElem?_append_right (by omega), ej, Nat.sub_self] at hy
      simp at hy
      obtain ⟨k, e1, h2, _⟩ := h.all x (mem_at hx)
      rw [e1, ← hy]
      show (k : Int) < (i : Int)
      omega
theorem cert_ok {n vw sq : Int} {bd : ByteArray} {i : Nat} {ms : List Mg} (hf : fCode n = 0) (hv : 0 ≤ vw ∧ vw ≤ 20) (hs : 1 ≤ sq ∧ sq ≤ 8) (hd : (dig bd).size = 32) (hb : bdP n bd = true) (h : Vs8 n vw sq (dig bd) i ms) (hl : (ms.length : Int) = qOut n) : crtB n bd ms = true ∧ ms.all mOK = true := by
  have hq := (q_pos hf).1
  obtain ⟨x, hx⟩ := Rg.get_at (xs := ms) (k := 0) (by omega)
  constructor
  · refine bOf_true ⟨hf, hl, hb, ⟨x, hx, fun y hy => ?_⟩, h.rise⟩
    obtain ⟨j, e1, _, h3, h4⟩ := h.all y hy
    obtain ⟨k, e2, _⟩ := h.all x (mem_at hx)
    rw [e1, e2]
    exact ⟨(pm_ok hf hv hs hd h3 h4).1, rfl, rfl, rfl, rfl⟩
  · rw [List.all_eq_true]
    intro y hy
    obtain ⟨j, e1, _, h3, h4⟩ := h.all y hy
    rw [e1]
    exact (pm_ok hf hv hs hd h3 h4).2
/-- What is written is read back. -/
theorem msg_back {x : Mg} (h : mOK x = true) : cOf (mTx x) = 0 ∧ mOf (mTx x) = x := by
  have hb := (ok_size h).2
  have e := Rc.rd_eq (mTx x)
  have hbs : bys (mTx x) = msgBs x.kd x.vw x.sq x.fr x.dg x.bd x.mc := Ho.bys_str _ (msgBs_range _ _ _ _ _ _ _)
  rw [hbs, Wb.readMsg_back hb] at e
  obtain ⟨e1, e2⟩ := Rc.tup_inj (a := oneV x) e
  exact ⟨e2.symm, (Rc.one_inj e1).symm⟩
theorem lens_small {ms : List Mg} (h : ms.all mOK = true) : ((ms.map mTx).map ByteArray.size).sum = 47 * ms.length := by
  induction ms with
  | nil => rfl
  | cons x ms ih =>
    rw [List.all_cons, Bool.and_eq_true] at h
    simp only [List.map_cons, List.sum_cons, List.length_cons]
    rw [ih h.2, (ok_size h.1).1]
    omega
theorem lenTo_eq (ts : List ByteArray) : ∀ k, k ≤ ts.length → lenTo ts k = 1 + 2 * k + ((ts.take k).map ByteArray.size).sum
  | 0, _ => rfl
  | k + 1, hk => by
    have hx := Rc.at_some (show k < ts.length by omega)
    show lenTo ts k + (2 + (tnth ts k).size) = _
    rw [lenTo_eq ts k (by omega), List.take_add_one, hx, List.map_append, List.sum_append]
    simp
    omega
theorem ms_back {ms : List Mg} (h : ms.all mOK = true) : allOK (ms.map mTx) = true ∧ msOf (ms.map mTx) = ms := by
  induction ms with
  | nil => exact ⟨rfl, rfl⟩
  | cons x ms ih =>
    rw [List.all_cons, Bool.and_eq_true] at h
    obtain ⟨i1, i2⟩ := ih h.2
    obtain ⟨b1, b2⟩ := msg_back h.1
    unfold allOK msOf at *
    rw [List.map_cons, List.all_cons, i1, List.map_cons, b2, i2]
    refine ⟨?_, rfl⟩
    unfold okT1
    rw [b1]; rfl
theorem cert_back {bd : ByteArray} {ms : List Mg} (hb : bd.size ≤ 20000) (h : ms.all mOK = true) (hl : ms.length ≤ 7) : cCode bd ms = 0 ∧ rcCode (cOut bd ms) = 0 ∧ rcBd (cOut bd ms) = bd ∧ rcMs (cOut bd ms) = ms ∧ (cOut bd ms).length ≤ 65536 := by
  have hc : cfB ms = true := by unfold cfB; rw [decide_eq_true hl, h]; rfl
  have hlen : (cTs bd ms).length = ms.length + 1 := by unfold cTs; rw [List.length_cons, List.length_map]
  have hsz : ∀ t ∈ cTs bd ms, t.size ≤ 20000 := fun t ht => by
    unfold cTs at ht
    rcases List.mem_cons.1 ht with rfl | ht
    · exact hb
    · obtain ⟨x, hx, rfl⟩ := List.mem_map.1 ht
      have := (ok_size (List.all_eq_true.1 h x hx)).1
      omega
  have hto : lenTo (cTs bd ms) (cTs bd ms).length ≤ 65536 := by
    rw [lenTo_eq _ _ (Nat.le_refl _), List.take_length, hlen]
    unfold cTs
    rw [List.map_cons, List.sum_cons, lens_small h]
    omega
  obtain ⟨e1, e2⟩ := Rl.all_good (cTs bd ms) (by omega) hsz hto
  have h65 : (listTo (cTs bd ms) (cTs bd ms).length).length ≤ 65536 := by rw [Lb.listTo_length]; exact hto
  obtain ⟨r1, r2⟩ := Rl.read_back (cTs bd ms) (by omega) hsz h65
  have ho : cOut bd ms = listTo (cTs bd ms) (cTs bd ms).length := by unfold cOut; rw [if_pos hc, e2]
  have hcc : cCode bd ms = 0 := by unfold cCode; rw [if_pos hc, e1]
  obtain ⟨m1, m2⟩ := ms_back h
  rw [ho]
  obtain ⟨q1, q2, q3⟩ := Rc.rc_yes (t := bd) (ts := ms.map mTx) r1 r2 m1 (by rw [m2]; exact hc)
  rw [m2] at q2
  exact ⟨hcc, q3, q1, q2, h65⟩
theorem less_no {n : Int} {bd : ByteArray} {ms ms' : List Mg} (h : crtB n bd ms = true) (hl : ms'.length + 1 = ms.length) : crtB n bd ms' = false := bOf_false fun h2 => by
  have h3 := (bOf_iff.1 h).2.1
  have h4 := h2.2.1
  omega
end Go.Proofs.YtkfiahemgdppfaaGreatDoor.Dc
