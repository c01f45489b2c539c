/- Texts put together: Bt, Wb, Bw. -/
import Derived.Test.YtkfiahemgdppfaaGreatDoorP22
import Derived.Test.YtkfiahemgdppfaaGreatDoorP5
import Derived.Test.YtkfiahemgdppfaaGreatDoorP23
import Derived.Test.YtkfiahemgdppfaaGreatDoorP6
import Derived.Test.YtkfiahemgdppfaaGreatDoorP21
import Derived.Test.YtkfiahemgdppfaaGreatDoorP18
import Derived.Test.YtkfiahemgdppfaaGreatDoorP9
/- Batches' bytes: the program. -/
namespace Go.Proofs.YtkfiahemgdppfaaGreatDoor.Bt
open Go.RowKit Go.Proofs.YtkfiahemgdppfaaGreatDoor.Sl Go.Proofs.YtkfiahemgdppfaaGreatDoor.By Go.Proofs.YtkfiahemgdppfaaGreatDoor.Rg Go.Proofs.YtkfiahemgdppfaaGreatDoor.Gr Go.Proofs.YtkfiahemgdppfaaGreatDoor.Rq Go.Proofs.YtkfiahemgdppfaaGreatDoor.Ap Go.Proofs.YtkfiahemgdppfaaGreatDoor.Pu Go.Proofs.YtkfiahemgdppfaaGreatDoor.Rp Go.Proofs.YtkfiahemgdppfaaGreatDoor.Bo

/-- A reading's bytes, some readings', a batch's. -/
def rdBs (x : Rd) : List Int := nums x.f 1 1 ++ (nums x.x 4 4 ++ bys x.m)
def rsBs (rs : List Rd) : List Int := rs.flatMap rdBs
def batBs (nl : Bool) (c st k l : Int) (n : ByteArray) (rs : List Rd) : List Int := if nl then [0] else nums ((rs.length : Int) + 1) 1 1 ++ rsBs rs ++ reqBs c st k l n
def batOut (nl : Bool) (c st k l : Int) (n : ByteArray) (rs : List Rd) : List Int := if bOK nl c st k l n rs then batBs nl c st k l n rs else []
def batCode (nl : Bool) (c st k l : Int) (n : ByteArray) (rs : List Rd) : Int := if bOK nl c st k l n rs then 0 else 1
theorem rs_step {rs : List Rd} {k : Nat} {x : Rd} (h : rs[k]? = some x) : rsBs (rs.take (k + 1)) = rsBs (rs.take k) ++ rdBs x := by
  unfold rsBs
  rw [List.take_add_one, h, List.flatMap_append]
  simp
theorem rsBs_len : ∀ (rs : List Rd), (∀ x ∈ rs, x.m.size = 8) → (rsBs rs).length = 13 * rs.length
  | [], _ => by simp [rsBs]
  | x :: xs, h => by
    have ih := rsBs_len xs fun y hy => h y (List.mem_cons_of_mem _ hy)
    unfold rsBs at ih ⊢
    rw [List.flatMap_cons, List.length_append, ih]
    unfold rdBs
    simp only [List.length_append, nums_length, bys_length, h x List.mem_cons_self, List.length_cons]
    omega
theorem rsBs_range (rs : List Rd) : ∀ z ∈ rsBs rs, 0 ≤ z ∧ z ≤ 255 := by
  intro z hz
  unfold rsBs at hz
  obtain ⟨x, _, hz⟩ := List.mem_flatMap.1 hz
  unfold rdBs at hz
  simp only [List.mem_append] at hz
  rcases hz with h | h | h
  · exact nums_range _ _ _ z h
  · exact nums_range _ _ _ z h
  · exact bys_range _ z h
theorem batBs_range (nl : Bool) (c st k l : Int) (n : ByteArray) (rs : List Rd) : ∀ z ∈ batBs nl c st k l n rs, 0 ≤ z ∧ z ≤ 255 := by
  intro z hz
  unfold batBs at hz
  cases nl with
  | true => simp at hz; omega
  | false =>
    simp only [Bool.false_eq_true, if_false, List.mem_append] at hz
    rcases hz with (h | h) | h
    · exact nums_range _ _ _ z h
    · exact rsBs_range _ z h
    · exact reqBs_range _ _ _ _ _ z h
theorem bOK_parts {c st k l : Int} {n : ByteArray} {rs : List Rd} (h : bOK false c st k l n rs = true) : n.size ≤ 12 ∧ rs.length ≤ 7 ∧ (∀ x ∈ rs, x.m.size = 8) ∧ reqB c st k l n = true ∧ rOK 0 rs = true := by
  have h' : (reqB c st k l n && rOK 0 rs) = true := h
  rw [Bool.and_eq_true] at h'
  exact ⟨req_small h'.1, rOK_seven h'.2, fun x hx => (rOK_small _ _ h'.2 x hx).1, h'.1, h'.2⟩
theorem box_kept {w w1 : World} {v v1 : Value} {cs : Array Value} {t : TypeId} (h : Kp (w.alloc (.cells cs t)) w1 v v1) (hn : some w.heap.size ≠ v.ownBlock) : w1.heap[w.heap.size]? = some (.cells cs t (0, 0)) :=
  (h.block _ (by simp) hn).trans (heap_alloc_new w _)
end Go.Proofs.YtkfiahemgdppfaaGreatDoor.Bt

/- Requests, messages and batches are read back from their bytes, and written again: of no program. -/
namespace Go.Proofs.YtkfiahemgdppfaaGreatDoor.Wb
open Go.RowKit Go.Proofs.YtkfiahemgdppfaaGreatDoor.Sl Go.Proofs.YtkfiahemgdppfaaGreatDoor.By Go.Proofs.YtkfiahemgdppfaaGreatDoor.Ap Go.Proofs.YtkfiahemgdppfaaGreatDoor.Rq Go.Proofs.YtkfiahemgdppfaaGreatDoor.Rr Go.Proofs.YtkfiahemgdppfaaGreatDoor.Pu Go.Proofs.YtkfiahemgdppfaaGreatDoor.Rp Go.Proofs.YtkfiahemgdppfaaGreatDoor.Mp Go.Proofs.YtkfiahemgdppfaaGreatDoor.Ms Go.Proofs.YtkfiahemgdppfaaGreatDoor.Of Go.Proofs.YtkfiahemgdppfaaGreatDoor.Om Go.Proofs.YtkfiahemgdppfaaGreatDoor.Gr Go.Proofs.YtkfiahemgdppfaaGreatDoor.Bo Go.Proofs.YtkfiahemgdppfaaGreatDoor.Bt Go.Proofs.YtkfiahemgdppfaaGreatDoor.Tkb

theorem tk_app {n : Nat} {a b : List Int} (h : a.length = n) : tkB n (a ++ b) = a ∧ tkR n (a ++ b) = b ∧ ∀ sh, tkS n (a ++ b) sh = sh := by
  obtain ⟨h1, h2, h3⟩ := tk_yes (n := n) (xs := a ++ b) (by rw [List.length_append]; omega)
  refine ⟨?_, ?_, h3⟩
  · rw [h1, List.take_append_of_le_length (by omega), List.take_of_length_le (by omega)]
  · rw [h2, List.drop_append_of_le_length (by omega), List.drop_eq_nil_of_le (by omega)]; rfl
theorem be1 {x : Int} (h0 : 0 ≤ x) (h1 : x ≤ 255) : beN (nums x 1 1) = x := by
  have e : nums x 1 1 = [nb x 0] := rfl
  rw [e]
  have e0 : nb x 0 = x := by show x / 1 % 256 = x; omega
  simp [beN, e0]
theorem be2 {x : Int} (h0 : 0 ≤ x) (h1 : x ≤ 65535) : beN (nums x 2 2) = x := by
  have e : nums x 2 2 = [nb x 1, nb x 0] := rfl
  rw [e]
  have e0 : nb x 0 = x % 256 := by show x / 1 % 256 = _; omega
  have e1 : nb x 1 = x / 256 % 256 := rfl
  simp [beN, e0, e1]
  omega
theorem be4 {x : Int} (h0 : 0 ≤ x) (h1 : x ≤ 4294967295) : beN (nums x 4 4) = x := by
  have e : nums x 4 4 = [nb x 3, nb x 2, nb x 1, nb x 0] := rfl
  rw [e]
  have e0 : nb x 0 = x % 256 := by show x / 1 % 256 = _; omega
  have e1 : nb x 1 = x / 256 % 256 := rfl
  have e2 : nb x 2 = x / 65536 % 256 := rfl
  have e3 : nb x 3 = x / 16777216 % 256 := rfl
  simp [beN, e0, e1, e2, e3]
  omega
theorem txt_app {n : Nat} {s : ByteArray} {rest : List Int} (h : beN (nums (s.size : Int) n n) = (s.size : Int)) :
    txtB n (nums (s.size : Int) n n ++ (bys s ++ rest)) = s ∧ txtR n (nums (s.size : Int) n n ++ (bys s ++ rest)) = rest ∧ ∀ sh, txtS n (nums (s.size : Int) n n ++ (bys s ++ rest)) sh = sh := by
  obtain ⟨a1, a2, a3⟩ := tk_app (n := n) (a := nums (s.size : Int) n n) (b := bys s ++ rest) (nums_length _ _ _)
  obtain ⟨b1, b2, b3⟩ := tk_app (n := s.size) (a := bys s) (b := rest) (bys_length _)
  have en : txtN n (nums (s.size : Int) n n ++ (bys s ++ rest)) = s.size := by unfold txtN; rw [a1, h]; rfl
  unfold txtB txtR txtS
  rw [en, a2, b1, b2, str_bys]
  refine ⟨rfl, rfl, fun sh => ?_⟩
  rw [a3, b3]

theorem in_of {x a b : Int} (h : inB x a b = true) : a ≤ x ∧ x ≤ b := of_decide_eq_true h
theorem req_parts {c st k l : Int} {n : ByteArray} (h : reqB c st k l n = true) : (0 ≤ c ∧ c ≤ 255) ∧ (1 ≤ st ∧ st ≤ 65535) ∧ (1 ≤ k ∧ k ≤ 4) ∧ (0 ≤ l ∧ l ≤ 1000) ∧ n.size ≤ 12 := by
  have hn := req_small h
  rw [req_split] at h
  simp only [Bool.and_eq_true] at h
  exact ⟨in_of h.1, in_of h.2.1, in_of h.2.2.1, in_of h.2.2.2.1, hn⟩
/-- A request's bytes are taken just so, whatever comes behind them. -/
theorem req_back {c st k l : Int} {n : ByteArray} (h : reqB c st k l n = true) (rest : List Int) :
    rqC (reqBs c st k l n ++ rest) = c ∧ rqS (reqBs c st k l n ++ rest) = st ∧ rqK (reqBs c st k l n ++ rest) = k ∧ rqL (reqBs c st k l n ++ rest) = l ∧ rqN (reqBs c st k l n ++ rest) = n ∧ rqRest (reqBs c st k l n ++ rest) = rest ∧ ∀ sh, rqSh (reqBs c st k l n ++ rest) sh = sh := by
  obtain ⟨⟨c0, c1⟩, ⟨s0, s1⟩, ⟨k0, k1⟩, ⟨l0, l1⟩, hn⟩ := req_parts h
  unfold reqBs
  simp only [List.append_assoc]
  obtain ⟨a1, a2, a3⟩ := tk_app (n := 1) (a := nums c 1 1) (b := nums st 2 2 ++ (nums k 1 1 ++ (nums l 2 2 ++ (nums (n.size : Int) 1 1 ++ (bys n ++ rest))))) (nums_length _ _ _)
  obtain ⟨b1, b2, b3⟩ := tk_app (n := 2) (a := nums st 2 2) (b := nums k 1 1 ++ (nums l 2 2 ++ (nums (n.size : Int) 1 1 ++ (bys n ++ rest)))) (nums_length _ _ _)
  obtain ⟨d1, d2, d3⟩ := tk_app (n := 1) (a := nums k 1 1) (b := nums l 2 2 ++ (nums (n.size : Int) 1 1 ++ (bys n ++ rest))) (nums_length _ _ _)
  obtain ⟨f1, f2, f3⟩ := tk_app (n := 2) (a := nums l 2 2) (b := nums (n.size : Int) 1 1 ++ (bys n ++ rest)) (nums_length _ _ _)
  obtain ⟨g1, g2, g3⟩ := txt_app (n := 1) (s := n) (rest := rest) (be1 (by omega) (by omega))
  unfold rqC rqS rqK rqL rqN rqRest rqSh rqT
  rw [a2, b2, d2, f2, a1, b1, d1, f1, g1, g2, be1 c0 c1, be2 (by omega) s1, be1 (by omega) (by omega), be2 l0 (by omega)]
  refine ⟨rfl, rfl, rfl, rfl, rfl, rfl, fun sh => ?_⟩
  rw [a3, b3, d3, f3, g3]
theorem readReq_back {c st k l : Int} {n : ByteArray} (h : reqB c st k l n = true) : readReq (reqBs c st k l n) = .tuple #[.agg #[.int .i64 c, .int .i64 st, .int .i64 k, .int .i64 l, .string n], .int .i64 0] := by
  obtain ⟨h1, h2, h3, h4, h5, h6, h7⟩ := req_back h []
  rw [List.append_nil] at h1 h2 h3 h4 h5 h6 h7
  have hl := reqBs_length c st k l n
  have hs := req_small h
  unfold readReq
  rw [h1, h2, h3, h4, h5, h6, h7, h, decide_eq_false (by omega)]
  rfl

theorem msg_parts {kd vw sq fr : Int} {dg bd mc : ByteArray} (h : msgB kd vw sq fr dg bd mc = true) : (1 ≤ kd ∧ kd ≤ 5) ∧ (0 ≤ vw ∧ vw ≤ 20) ∧ (0 ≤ sq ∧ sq ≤ 8) ∧ (0 ≤ fr ∧ fr ≤ 6) ∧ dg.size ≤ 32 ∧ bd.size ≤ 20000 ∧ mc.size = 8 := by
  obtain ⟨d, b, m⟩ := msg_small h
  rw [msg_split] at h
  simp only [Bool.and_eq_true] at h
  refine ⟨in_of h.1, in_of h.2.1, ?_, in_of h.2.2.1, d, b, m⟩
  have hk := h.2.2.2.2.2
  rcases kinds kd with rfl | rfl | rfl | rfl | rfl | hq
  · rw [kind1] at hk; simp only [Bool.and_eq_true, placeB] at hk; have := in_of hk.1.1; omega
  · rw [kind2] at hk; simp only [Bool.and_eq_true, placeB] at hk; have := in_of hk.1.1; omega
  · rw [kind3] at hk; simp only [Bool.and_eq_true, placeB] at hk; have := in_of hk.1.1; omega
  · rw [kind4] at hk; simp only [Bool.and_eq_true, beq_iff_eq] at hk; omega
  · rw [kind5] at hk; simp only [Bool.and_eq_true, beq_iff_eq] at hk; omega
  · have := in_of h.1; omega
theorem readMsg_back {kd vw sq fr : Int} {dg bd mc : ByteArray} (h : msgB kd vw sq fr dg bd mc = true) : readMsg (msgBs kd vw sq fr dg bd mc) = .tuple #[.agg #[.int .i64 kd, .int .i64 vw, .int .i64 sq, .int .i64 fr, .string dg, .string bd, .string mc], .int .i64 0] := by
  obtain ⟨⟨k0, k1⟩, ⟨v0, v1⟩, ⟨s0, s1⟩, ⟨f0, f1⟩, hd, hb, hm⟩ := msg_parts h
  have hl := msgBs_length kd vw sq fr dg bd mc
  have hx : msgBs kd vw sq fr dg bd mc = nums kd 1 1 ++ (nums vw 1 1 ++ (nums sq 1 1 ++ (nums fr 1 1 ++ (nums (dg.size : Int) 1 1 ++ (bys dg ++ (nums (bd.size : Int) 2 2 ++ (bys bd ++ (bys mc ++ [])))))))) := by
    unfold msgBs plainBs headBs
    simp only [List.append_assoc, List.append_nil]
  unfold readMsg
  rw [decide_eq_false (by omega), hx]
  obtain ⟨a1, a2, a3⟩ := tk_app (n := 1) (a := nums kd 1 1) (b := nums vw 1 1 ++ (nums sq 1 1 ++ (nums fr 1 1 ++ (nums (dg.size : Int) 1 1 ++ (bys dg ++ (nums (bd.size : Int) 2 2 ++ (bys bd ++ (bys mc ++ [])))))))) (nums_length _ _ _)
  obtain ⟨b1, b2, b3⟩ := tk_app (n := 1) (a := nums vw 1 1) (b := nums sq 1 1 ++ (nums fr 1 1 ++ (nums (dg.size : Int) 1 1 ++ (bys dg ++ (nums (bd.size : Int) 2 2 ++ (bys bd ++ (bys mc ++ []))))))) (nums_length _ _ _)
  obtain ⟨c1, c2, c3⟩ := tk_app (n := 1) (a := nums sq 1 1) (b := nums fr 1 1 ++ (nums (dg.size : Int) 1 1 ++ (bys dg ++ (nums (bd.size : Int) 2 2 ++ (bys bd ++ (bys mc ++ [])))))) (nums_length _ _ _)
  obtain ⟨d1, d2, d3⟩ := tk_app (n := 1) (a := nums fr 1 1) (b := nums (dg.size : Int) 1 1 ++ (bys dg ++ (nums (bd.size : Int) 2 2 ++ (bys bd ++ (bys mc ++ []))))) (nums_length _ _ _)
  obtain ⟨e1, e2, e3⟩ := txt_app (n := 1) (s := dg) (rest := nums (bd.size : Int) 2 2 ++ (bys bd ++ (bys mc ++ []))) (be1 (by omega) (by omega))
  obtain ⟨g1, g2, g3⟩ := txt_app (n := 2) (s := bd) (rest := bys mc ++ []) (be2 (by omega) (by omega))
  obtain ⟨i1, i2, i3⟩ := tk_app (n := 8) (a := bys mc) (b := []) (by rw [bys_length]; exact hm)
  unfold mgSh mgRest mgDg mgBd mgMc mg3
  rw [a2, b2, c2, d2, a1, b1, c1, d1, e1, e2, g1, g2, i1, i2, a3, b3, c3, d3, e3, g3, i3, be1 (by omega) (by omega), be1 (by omega) (by omega), be1 (by omega) (by omega), be1 (by omega) (by omega), str_bys, h]
  rfl

/-! what was taken is written again -/
theorem tk_join {n : Nat} {xs : List Int} {sh : Bool} (h : tkS n xs sh = false) : tkB n xs ++ tkR n xs = xs ∧ (tkB n xs).length = n ∧ sh = false := by
  obtain ⟨h1, h2⟩ := tkS_false.1 h
  rw [tkB_yes h2, tkR_yes h2, List.take_append_drop, List.length_take]
  exact ⟨rfl, by omega, h1⟩
theorem nums_be1 {xs : List Int} (hr : ∀ x ∈ xs, 0 ≤ x ∧ x ≤ 255) (h : xs.length = 1) : nums (beN xs) 1 1 = xs := by
  match xs, h with
  | [a], _ =>
    have ha := hr a (by simp)
    have e : beN [a] = a := by simp [beN]
    rw [e]
    show [a / 1 % 256] = [a]
    congr 1
    omega
theorem nums_be2 {xs : List Int} (hr : ∀ x ∈ xs, 0 ≤ x ∧ x ≤ 255) (h : xs.length = 2) : nums (beN xs) 2 2 = xs := by
  match xs, h with
  | [a, b], _ =>
    have ha := hr a (by simp)
    have hb := hr b (by simp)
    have e : beN [a, b] = a * 256 + b := by simp [beN]
    rw [e]
    have e0 : (a * 256 + b) / 256 % 256 = a := by omega
    have e1 : (a * 256 + b) / 1 % 256 = b := by omega
    show [(a * 256 + b) / 256 % 256, (a * 256 + b) / 1 % 256] = [a, b]
    rw [e0, e1]
theorem nums_be4 {xs : List Int} (hr : ∀ x ∈ xs, 0 ≤ x ∧ x ≤ 255) (h : xs.length = 4) : nums (beN xs) 4 4 = xs := by
  match xs, h with
  | [a, b, c, d], _ =>
    have ha := hr a (by simp)
    have hb := hr b (by simp)
    have hc := hr c (by simp)
    have hd := hr d (by simp)
    have e : beN [a, b, c, d] = ((a * 256 + b) * 256 + c) * 256 + d := by simp [beN]
    rw [e]
    have e0 : (((a * 256 + b) * 256 + c) * 256 + d) / 16777216 % 256 = a := by omega
    have e1 : (((a * 256 + b) * 256 + c) * 256 + d) / 65536 % 256 = b := by omega
    have e2 : (((a * 256 + b) * 256 + c) * 256 + d) / 256 % 256 = c := by omega
    have e3 : (((a * 256 + b) * 256 + c) * 256 + d) / 1 % 256 = d := by omega
    show [(((a * 256 + b) * 256 + c) * 256 + d) / 16777216 % 256, (((a * 256 + b) * 256 + c) * 256 + d) / 65536 % 256, (((a * 256 + b) * 256 + c) * 256 + d) / 256 % 256, (((a * 256 + b) * 256 + c) * 256 + d) / 1 % 256] = [a, b, c, d]
    rw [e0, e1, e2, e3]
theorem txt_join {n : Nat} {xs : List Int} {sh : Bool} (hr : ∀ x ∈ xs, 0 ≤ x ∧ x ≤ 255) (hn : n = 1 ∨ n = 2) (h : txtS n xs sh = false) : nums ((txtB n xs).size : Int) n n ++ (bys (txtB n xs) ++ txtR n xs) = xs ∧ sh = false := by
  unfold txtS at h
  obtain ⟨a1, a2, a3⟩ := tk_join h
  obtain ⟨b1, b2, b3⟩ := tk_join a3
  have hr2 := tkR_range (n := n) hr
  have e1 : bys (txtB n xs) = tkB (txtN n xs) (tkR n xs) := by unfold txtB; exact bys_str _ (tkB_range hr2)
  have e2 : ((txtB n xs).size : Int) = beN (tkB n xs) := by
    rw [bys_size, e1, a2, (txtN_le n xs (by omega) hr).2]
  have e3 : nums (beN (tkB n xs)) n n = tkB n xs := by
    rcases hn with rfl | rfl
    · exact nums_be1 (tkB_range hr) b2
    · exact nums_be2 (tkB_range hr) b2
  refine ⟨?_, b3⟩
  rw [e2, e3, e1]
  unfold txtR
  rw [a1, b1]
theorem req_again {xs : List Int} {sh : Bool} (hr : ∀ x ∈ xs, 0 ≤ x ∧ x ≤ 255) (h : rqSh xs sh = false) : reqBs (rqC xs) (rqS xs) (rqK xs) (rqL xs) (rqN xs) ++ rqRest xs = xs ∧ sh = false := by
  unfold rqSh at h
  have r1 := tkR_range (n := 1) hr
  have r2 := tkR_range (n := 2) r1
  have r3 := tkR_range (n := 1) r2
  have r4 := tkR_range (n := 2) r3
  obtain ⟨t1, t2⟩ := txt_join r4 (.inl rfl) h
  obtain ⟨a1, a2, a3⟩ := tk_join t2
  obtain ⟨b1, b2, b3⟩ := tk_join a3
  obtain ⟨c1, c2, c3⟩ := tk_join b3
  obtain ⟨d1, d2, d3⟩ := tk_join c3
  refine ⟨?_, d3⟩
  unfold reqBs rqN rqRest rqC rqS rqK rqL rqT
  simp only [List.append_assoc]
  rw [t1, nums_be1 (tkB_range hr) d2, nums_be2 (tkB_range r1) c2, nums_be1 (tkB_range r2) b2, nums_be2 (tkB_range r3) a2, a1, b1, c1, d1]
theorem msg_again {xs : List Int} (hr : ∀ x ∈ xs, 0 ≤ x ∧ x ≤ 255) (h : mgSh xs false = false) : msgBs (beN (tkB 1 xs)) (beN (tkB 1 (tkR 1 xs))) (beN (tkB 1 (tkR 1 (tkR 1 xs)))) (beN (tkB 1 (tkR 1 (tkR 1 (tkR 1 xs))))) (mgDg xs) (mgBd xs) (mgMc xs) ++ mgRest xs = xs := by
  unfold mgSh at h
  have r1 := tkR_range (n := 1) hr
  have r2 := tkR_range (n := 1) r1
  have r3 := tkR_range (n := 1) r2
  have r4 := tkR_range (n := 1) r3
  have r5 : ∀ x ∈ txtR 1 (mg3 xs), 0 ≤ x ∧ x ≤ 255 := txtR_range r4
  have r6 : ∀ x ∈ txtR 2 (txtR 1 (mg3 xs)), 0 ≤ x ∧ x ≤ 255 := txtR_range r5
  obtain ⟨m1, m2, m3⟩ := tk_join h
  obtain ⟨t1, t2⟩ := txt_join r5 (.inr rfl) m3
  obtain ⟨s1, s2⟩ := txt_join (xs := mg3 xs) r4 (.inl rfl) t2
  obtain ⟨a1, a2, a3⟩ := tk_join s2
  obtain ⟨b1, b2, b3⟩ := tk_join a3
  obtain ⟨c1, c2, c3⟩ := tk_join b3
  obtain ⟨d1, d2, d3⟩ := tk_join c3
  unfold msgBs plainBs headBs mgMc mgRest mgDg mgBd
  simp only [List.append_assoc]
  rw [bys_str _ (tkB_range r6), m1, t1, s1, nums_be1 (tkB_range hr) d2, nums_be1 (tkB_range r1) c2, nums_be1 (tkB_range r2) b2, nums_be1 (tkB_range r3) a2]
  unfold mg3
  rw [a1, b1, c1, d1]
/-- What ReadMessage answers: a code; where it is none, what was read is right and its bytes are these. -/
theorem readMsg_again (xs : List Int) (hr : ∀ x ∈ xs, 0 ≤ x ∧ x ≤ 255) : ∃ (kd vw sq fr : Int) (dg bd mc : ByteArray) (code : Int), readMsg xs = .tuple #[.agg #[.int .i64 kd, .int .i64 vw, .int .i64 sq, .int .i64 fr, .string dg, .string bd, .string mc], .int .i64 code] ∧ (code = 0 → msgB kd vw sq fr dg bd mc = true ∧ msgBs kd vw sq fr dg bd mc = xs) := by
  unfold readMsg rjV
  split
  · exact ⟨_, _, _, _, _, _, _, _, rfl, fun h => by cases h⟩
  split
  · rename_i hok
    simp only [Bool.and_eq_true, Bool.not_eq_true'] at hok
    refine ⟨_, _, _, _, _, _, _, _, rfl, fun _ => ⟨hok.2.2, ?_⟩⟩
    have := msg_again hr hok.1
    rw [List.isEmpty_iff.1 hok.2.1, List.append_nil] at this
    exact this
  · exact ⟨_, _, _, _, _, _, _, _, rfl, fun h => by cases h⟩

/-! batches -/
theorem rd_back (x : Rd) (hm : x.m.size = 8) (hf : 0 ≤ x.f ∧ x.f ≤ 255) (hx : 0 ≤ x.x ∧ x.x ≤ 1000000000) (rest : List Int) : rd1 (rdBs x ++ rest) = x ∧ rdRest (rdBs x ++ rest) = rest ∧ ∀ sh, rdSh (rdBs x ++ rest) sh = sh := by
  unfold rdBs
  simp only [List.append_assoc]
  obtain ⟨a1, a2, a3⟩ := tk_app (n := 1) (a := nums x.f 1 1) (b := nums x.x 4 4 ++ (bys x.m ++ rest)) (nums_length _ _ _)
  obtain ⟨b1, b2, b3⟩ := tk_app (n := 4) (a := nums x.x 4 4) (b := bys x.m ++ rest) (nums_length _ _ _)
  obtain ⟨c1, c2, c3⟩ := tk_app (n := 8) (a := bys x.m) (b := rest) (by rw [bys_length]; exact hm)
  unfold rd1 rdRest rdSh
  rw [a2, b2, a1, b1, c1, c2, be1 hf.1 hf.2, be4 hx.1 (by omega), str_bys]
  exact ⟨rfl, rfl, fun sh => by rw [a3, b3, c3]⟩
theorem rs_back : ∀ (rs : List Rd), (∀ x ∈ rs, x.m.size = 8 ∧ (0 ≤ x.f ∧ x.f ≤ 255) ∧ (0 ≤ x.x ∧ x.x ≤ 1000000000)) → ∀ (rest : List Int) (k : Nat), k ≤ rs.length → bR (rsBs rs ++ rest) k = rsBs (rs.drop k) ++ rest ∧ bL (rsBs rs ++ rest) k = rs.take k ∧ ∀ sh, bS (rsBs rs ++ rest) sh k = sh := by
  intro rs hrs rest k
  induction k with
  | zero => intro _; exact ⟨by simp [bR], by simp [bL], fun _ => rfl⟩
  | succ k ih =>
    intro hk
    obtain ⟨h1, h2, h3⟩ := ih (by omega)
    have hd : rs.drop k = rs[k] :: rs.drop (k + 1) := List.drop_eq_getElem_cons (by omega)
    obtain ⟨m1, m2, m3⟩ := hrs rs[k] (List.getElem_mem _)
    have hx : rsBs (rs.drop k) ++ rest = rdBs rs[k] ++ (rsBs (rs.drop (k + 1)) ++ rest) := by rw [hd]; show (rs[k] :: rs.drop (k + 1)).flatMap rdBs ++ rest = _; rw [List.flatMap_cons, List.append_assoc]; rfl
    obtain ⟨e1, e2, e3⟩ := rd_back rs[k] m1 m2 m3 (rsBs (rs.drop (k + 1)) ++ rest)
    unfold bR bL bS
    rw [h1, h2, hx, e1, e2]
    refine ⟨rfl, by rw [List.take_add_one, List.getElem?_eq_getElem (by omega)]; rfl, fun sh => ?_⟩
    rw [e3, h3]
theorem rOK_from : ∀ (rs : List Rd) (l : Int), 0 ≤ l → rOK l rs = true → ∀ x ∈ rs, 0 ≤ x.f
  | [], _, _, _ => fun x hx => by cases hx
  | y :: ys, l, hl, h => by
    unfold rOK r1 at h
    simp only [Bool.and_eq_true] at h
    have hy := in_of h.1.1
    intro x hx
    rcases List.mem_cons.1 hx with rfl | hx
    · omega
    · exact rOK_from ys (y.f + 1) (by omega) h.2 x hx
/-- A right batch is read back. -/
theorem bat_back {nl : Bool} {c st k l : Int} {n : ByteArray} {rs : List Rd} (h : bOK nl c st k l n rs = true) (_hz : nl = true → c = 0 ∧ st = 0 ∧ k = 0 ∧ l = 0 ∧ n = ⟨#[]⟩ ∧ rs = []) : rbC (batBs nl c st k l n rs) = 0 ∧ rbX (batBs nl c st k l n rs) = ⟨nl, c, st, k, l, n, rs⟩ ∧ (batBs nl c st k l n rs).length ≤ 200 := by
  cases nl with
  | true =>
    obtain ⟨rfl, rfl, rfl, rfl, rfl, rfl⟩ := _hz rfl
    have hb : batBs true 0 0 0 0 ⟨#[]⟩ [] = [0] := rfl
    have hc : cnt [0] = 0 := by simp [cnt, tkB, beN]
    have hz : zB 0 0 0 0 ⟨#[]⟩ = true := by unfold zB; simp
    have hk : rbOK [0] = true := by
      unfold rbOK tbS tbR tbX
      rw [if_pos hc, if_pos hc, if_pos hc]
      show (!(tkS 1 [0] false) && ((tkR 1 [0]).isEmpty && (zB 0 0 0 0 ⟨#[]⟩ && ((([] : List Rd).length : Int) == 0)))) = true
      rw [hz]
      rfl
    have hX : tbX [0] = ⟨true, 0, 0, 0, 0, ⟨#[]⟩, []⟩ := by unfold tbX; rw [if_pos hc]
    rw [hb]
    refine ⟨?_, ?_, by decide⟩
    · unfold rbC rjC; rw [hk]; rfl
    · unfold rbX rjX; rw [hk, hX]; rfl
  | false =>
    obtain ⟨h12, h7, h8, hq, ho⟩ := bOK_parts h
    have hsm := rOK_small rs 0 ho
    have hfr := rOK_from rs 0 (by decide) ho
    have hall : ∀ x ∈ rs, x.m.size = 8 ∧ (0 ≤ x.f ∧ x.f ≤ 255) ∧ (0 ≤ x.x ∧ x.x ≤ 1000000000) := fun x hx => by
      obtain ⟨a, b, c', d⟩ := hsm x hx
      have := hfr x hx
      exact ⟨a, ⟨this, by omega⟩, c', d⟩
    have hlen : (batBs false c st k l n rs).length ≤ 200 := by
      show (nums ((rs.length : Int) + 1) 1 1 ++ rsBs rs ++ reqBs c st k l n).length ≤ 200
      rw [List.length_append, List.length_append, nums_length, rsBs_len rs h8, reqBs_length]
      omega
    have hx : batBs false c st k l n rs = nums ((rs.length : Int) + 1) 1 1 ++ (rsBs rs ++ (reqBs c st k l n ++ [])) := by
      show nums ((rs.length : Int) + 1) 1 1 ++ rsBs rs ++ reqBs c st k l n = _
      simp only [List.append_assoc, List.append_nil]
    obtain ⟨a1, a2, a3⟩ := tk_app (n := 1) (a := nums ((rs.length : Int) + 1) 1 1) (b := rsBs rs ++ (reqBs c st k l n ++ [])) (nums_length _ _ _)
    obtain ⟨b1, b2, b3⟩ := rs_back rs hall (reqBs c st k l n ++ []) rs.length (Nat.le_refl _)
    rw [List.drop_length] at b1
    rw [List.take_length] at b2
    have b1' : bR (rsBs rs ++ (reqBs c st k l n ++ [])) rs.length = reqBs c st k l n ++ [] := by rw [b1]; rfl
    obtain ⟨d1, d2, d3, d4, d5, d6, d7⟩ := req_back hq []
    have hc : cnt (batBs false c st k l n rs) = rs.length + 1 := by
      unfold cnt; rw [hx, a1, be1 (by omega) (by omega)]; omega
    have e1 : tkR 1 (batBs false c st k l n rs) = rsBs rs ++ (reqBs c st k l n ++ []) := by rw [hx, a2]
    have e2 : tkS 1 (batBs false c st k l n rs) false = false := by rw [hx, a3]
    have ez : tbZ (batBs false c st k l n rs) = reqBs c st k l n ++ [] := by
      unfold tbZ; rw [hc, e1]; exact b1'
    have eX : tbX (batBs false c st k l n rs) = ⟨false, c, st, k, l, n, rs⟩ := by
      unfold tbX
      rw [if_neg (by omega), ez, d1, d2, d3, d4, d5, e1, hc]
      show Bv.mk false c st k l n (bL (rsBs rs ++ (reqBs c st k l n ++ [])) rs.length) = _
      rw [b2]
    have eR : tbR (batBs false c st k l n rs) = [] := by
      unfold tbR; rw [if_neg (by omega), ez, d6]
    have eS : tbS (batBs false c st k l n rs) = false := by
      unfold tbS
      rw [if_neg (by omega), ez, d7, e1, e2, hc]
      exact b3 false
    have eok : rbOK (batBs false c st k l n rs) = true := by
      unfold rbOK
      rw [eS, eR, eX]
      show (!false && (List.isEmpty ([] : List Int) && bOK false c st k l n rs)) = true
      rw [h]
      rfl
    refine ⟨?_, ?_, hlen⟩
    · unfold rbC rjC; rw [eok, decide_eq_false (by omega)]; rfl
    · unfold rbX rjX; rw [eok, decide_eq_false (by omega), eX]; rfl
theorem rd_again {xs : List Int} {sh : Bool} (hr : ∀ x ∈ xs, 0 ≤ x ∧ x ≤ 255) (h : rdSh xs sh = false) : rdBs (rd1 xs) ++ rdRest xs = xs ∧ sh = false := by
  unfold rdSh at h
  have r1 := tkR_range (n := 1) hr
  have r2 := tkR_range (n := 4) r1
  obtain ⟨a1, a2, a3⟩ := tk_join h
  obtain ⟨b1, b2, b3⟩ := tk_join a3
  obtain ⟨c1, c2, c3⟩ := tk_join b3
  refine ⟨?_, c3⟩
  unfold rdBs rd1 rdRest
  dsimp only
  simp only [List.append_assoc]
  rw [bys_str _ (tkB_range r2), a1, nums_be4 (tkB_range r1) b2, b1, nums_be1 (tkB_range hr) c2, c1]
theorem rs_again {xs : List Int} {sh : Bool} (hr : ∀ x ∈ xs, 0 ≤ x ∧ x ≤ 255) : ∀ k, bS xs sh k = false → rsBs (bL xs k) ++ bR xs k = xs ∧ sh = false
  | 0, h => ⟨rfl, h⟩
  | k + 1, h => by
    have h' : rdSh (bR xs k) (bS xs sh k) = false := h
    obtain ⟨e1, e2⟩ := rd_again (bR_range hr k) h'
    obtain ⟨i1, i2⟩ := rs_again hr k e2
    refine ⟨?_, i2⟩
    have : rsBs (bL xs (k + 1)) = rsBs (bL xs k) ++ rdBs (rd1 (bR xs k)) := by
      show (bL xs k ++ [rd1 (bR xs k)]).flatMap rdBs = _
      rw [List.flatMap_append]
      simp [rsBs]
    rw [this, List.append_assoc]
    show rsBs (bL xs k) ++ (rdBs (rd1 (bR xs k)) ++ rdRest (bR xs k)) = xs
    rw [e1, i1]
/-- What was read is written again. -/
theorem bat_again {xs : List Int} (hr : ∀ x ∈ xs, 0 ≤ x ∧ x ≤ 255) (h : rbC xs = 0) : bOKx (rbX xs) = true ∧ batBs (rbX xs).nl (rbX xs).c (rbX xs).st (rbX xs).k (rbX xs).l (rbX xs).n (rbX xs).rs = xs := by
  have h65 : ¬ 65536 < xs.length := fun hb => by unfold rbC rjC at h; rw [decide_eq_true hb] at h; cases h
  have ok : rbOK xs = true := by
    cases e : rbOK xs with
    | true => rfl
    | false => unfold rbC rjC at h; rw [decide_eq_false h65, e] at h; cases h
  have hX : rbX xs = tbX xs := by unfold rbX rjX; rw [ok, decide_eq_false h65]; rfl
  unfold rbOK at ok
  simp only [Bool.and_eq_true, Bool.not_eq_true'] at ok
  obtain ⟨hS, hE, hO⟩ := ok
  have hE' : tbR xs = [] := List.isEmpty_iff.1 hE
  rw [hX]
  refine ⟨hO, ?_⟩
  obtain ⟨n1, n2⟩ := cnt_eq hr
  by_cases h0 : cnt xs = 0
  · unfold tbS at hS
    unfold tbR at hE'
    rw [if_pos h0] at hS hE'
    obtain ⟨a1, a2, a3⟩ := tk_join hS
    unfold tbX
    rw [if_pos h0]
    show [0] = xs
    have e := nums_be1 (tkB_range (n := 1) hr) a2
    rw [n1, h0] at e
    rw [hE', List.append_nil] at a1
    rw [← a1, ← e]
    rfl
  · unfold tbS at hS
    unfold tbR at hE'
    rw [if_neg h0] at hS hE'
    have r1 := tkR_range (n := 1) hr
    have rz : ∀ x ∈ tbZ xs, 0 ≤ x ∧ x ≤ 255 := bR_range r1 _
    obtain ⟨q1, q2⟩ := req_again rz hS
    obtain ⟨s1, s2⟩ := rs_again r1 (cnt xs - 1) q2
    obtain ⟨a1, a2, a3⟩ := tk_join s2
    have e := nums_be1 (tkB_range (n := 1) hr) a2
    rw [n1] at e
    unfold tbX
    rw [if_neg h0]
    rw [hE', List.append_nil] at q1
    dsimp only
    unfold batBs
    rw [if_neg (by decide)]
    rw [bL_len, show ((cnt xs - 1 : Nat) : Int) + 1 = (cnt xs : Int) by omega, e, q1, List.append_assoc]
    unfold tbZ
    rw [s1, a1]
end Go.Proofs.YtkfiahemgdppfaaGreatDoor.Wb

/- Bodies that are right, of the program and of the specification. -/
namespace Go.Proofs.YtkfiahemgdppfaaGreatDoor.Bw
open Go.RowKit Go.Proofs.YtkfiahemgdppfaaGreatDoor.Sl Go.Proofs.YtkfiahemgdppfaaGreatDoor.By Go.Proofs.YtkfiahemgdppfaaGreatDoor.Ap Go.Proofs.YtkfiahemgdppfaaGreatDoor.Sh Go.Proofs.YtkfiahemgdppfaaGreatDoor.Ho Go.Proofs.YtkfiahemgdppfaaGreatDoor.Tm Go.Proofs.YtkfiahemgdppfaaGreatDoor.Tkb
open Go.Proofs.YtkfiahemgdppfaaGreatDoor.Ti (implReadingsTime_any tCode tOut t_cases)
open Go.Proofs.YtkfiahemgdppfaaGreatDoor.Ts (good lOut)
open Go.Proofs.YtkfiahemgdppfaaGreatDoor.Wb (bat_again)
open Go.Proofs.YtkfiahemgdppfaaGreatDoor.Rg (RowG RowG.slice RowG.at lt_at mem_at bel_new blk_cell)

theorem ret_b {a b : Bool} (h : a = b) : Ending.returned (.bool a) = .returned (.bool b) := by rw [h]
def cv (x : Gr.Rd) : Rw.Rd := ⟨x.f, x.x, x.m⟩
theorem row_r {w : World} {v : Value} {xs : List Gr.Rd} (h : Gr.Row w v xs) : Rw.RowR w v (xs.map cv) := by
  obtain ⟨a, cap, rfl, h⟩ := h
  refine ⟨a, cap, by rw [List.length_map], ?_⟩
  rcases h with rfl | ⟨b, off, rfl, hc, hlt, h⟩
  · exact .inl rfl
  · refine .inr ⟨b, off, rfl, by rw [List.length_map]; exact hc, hlt, fun i hi => ?_⟩
    rw [List.length_map] at hi
    have e : xs[i]? = some xs[i] := List.getElem?_eq_getElem hi
    have r : Rw.rn (xs.map cv) i = cv xs[i] := by unfold Rw.rn; rw [List.getD_eq_getElem?_getD, List.getElem?_map, e]; rfl
    rw [r]
    exact h i _ e
/-- A body is right; it is, and is not too long. -/
def bdB (n : Int) (s : ByteArray) : Bool := rbOK (bys s) && ((tbX (bys s)).nl || good n ((tbX (bys s)).rs.map cv))
def bdP (n : Int) (s : ByteArray) : Bool := decide (s.size ≤ 20000) && bdB n s
theorem ok_small {s : ByteArray} (hs : s.size ≤ 65536) (h : rbOK (bys s) = true) : s.size ≤ 20000 := by
  have hl := bys_length s
  have hc : rbC (bys s) = 0 := by unfold rbC rjC; rw [decide_eq_false (by omega), h]; rfl
  obtain ⟨h1, h2⟩ := bat_again (bys_range s) hc
  rw [← hl, ← h2]
  unfold bOKx at h1
  generalize rbX (bys s) = X at h1
  obtain ⟨nl, c, st, k, l, nm, rs⟩ := X
  unfold Bt.batBs
  cases nl with
  | true => show (1 : Nat) ≤ 20000; decide
  | false =>
    obtain ⟨p1, p2, p3, _, _⟩ : nm.size ≤ 12 ∧ rs.length ≤ 7 ∧ (∀ x ∈ rs, x.m.size = 8) ∧ Rq.reqB c st k l nm = true ∧ Bo.rOK 0 rs = true := Bt.bOK_parts h1
    simp only [Bool.false_eq_true, if_false, List.length_append, Pu.nums_length, Bt.rsBs_len _ p3, Rp.reqBs_length]
    omega
theorem c_zero {s : ByteArray} : rbC (bys s) = 0 ↔ s.size ≤ 65536 ∧ rbOK (bys s) = true := by
  have hl := bys_length s
  unfold rbC rjC
  by_cases h : 65536 < (bys s).length
  · rw [decide_eq_true h]; simp; omega
  · rw [decide_eq_false h]
    cases rbOK (bys s) <;> simp; omega
theorem x_ok {s : ByteArray} (h : rbC (bys s) = 0) : rbX (bys s) = tbX (bys s) := by
  obtain ⟨h1, h2⟩ := c_zero.1 h
  have hl := bys_length s
  unfold rbX rjX
  rw [decide_eq_false (by omega), h2]; rfl
theorem t_good {n : Int} {rs : List Rw.Rd} (hf : fCode n = 0) (hl : rs.length ≤ 4096) : ((tCode n rs == 0) : Bool) = good n rs := by
  unfold tCode good
  rw [if_neg (by omega), if_neg (by omega)]
  by_cases h1 : (rs.length : Int) = 2 * fOut n + 1
  · rw [decide_eq_true h1]
    cases h2 : (Rs.okAll rs && Rs.mkAll n rs) with
    | true => rw [if_pos ⟨h1, rfl⟩]; rfl
    | false => rw [if_neg (by simp)]; rfl
  · rw [decide_eq_false h1, if_neg (by intro h; exact h1 h.1)]; rfl
set_option maxRecDepth 100000 in
set_option maxHeartbeats 1600000 in
theorem l06Body_any (n : Int) (s : ByteArray) (w : World) (hf : fCode n = 0) (hs : s.size ≤ 20000) :
    Calls Tryz.prog 33 #[.int .i64 n, .string s] w fun e w' => e = .returned (.bool (bdB n s)) ∧ Below w.heap.size w w' := by
  have HRB := l02ReadBatch_any s w (by omega)
  have HSM : Hid ((tbX (bys s)).rs.length ≤ 255) := (tbX_small (bys s) (bys_range s) (by rw [bys_length]; omega)).2
  have HE : Hid (bdB n s = (rbOK (bys s) && ((tbX (bys s)).nl || good n ((tbX (bys s)).rs.map cv)))) := rfl
  have HF : Hid (fCode n = 0) := hf
  clear hf hs
  generalize bdB n s = out at HE ⊢
  generalize rbOK (bys s) = ok at HRB HE
  generalize tbX (bys s) = Y at HRB HE HSM
  have HR : Hid (Calls Tryz.prog 64 #[.string s] w fun e w' => ∃ (x : Bv) (u : Value), e = .returned (.tuple #[.agg #[.bool x.nl, .int .i64 x.c, .int .i64 x.st, .int .i64 x.k, .int .i64 x.l, .string x.n, u], .bool ok]) ∧ (ok = true → x = Y) ∧ OwnR w' w.heap.size u x.rs ∧ Below w.heap.size w w') := HRB
  clear HRB
  go_enter Tryz.func33, Tryz.ntmps33
  go_wp2_with fail
  refine HR.out.mono ?_
  rintro e w1 ⟨X, u, rfl, hX, o1, b1⟩
  have HA : Hid (∀ o, Below w.heap.size w (w1.alloc o)) := fun o => b1.alloc b1.size o
  obtain ⟨ua, ucap, rfl⟩ := RowG.slice (OwnR.row o1)
  cases ok with
  | false =>
    clear hX o1 b1
    go_wp2_with fail
    go_ret
    exact ⟨ret_b (by rw [HE.out]; rfl), HA.out _⟩
  | true =>
    obtain rfl := hX rfl
    obtain ⟨nl, c, st, k, l, nm, rs⟩ := X
    have HO : Hid (∀ o, Gr.Row (w1.alloc o) (.slice ua rs.length ucap) rs) := fun o => (OwnR.row o1).below (bel_new _ _)
    have HLT : Hid (∀ o, Calls Tryz.prog 65 #[.int .i64 n, .slice ua rs.length ucap] (w1.alloc o) fun e w' => e = .returned (.tuple #[.int .i64 (lOut n (rs.map cv)), .bool (good n (rs.map cv))]) ∧ Below (w1.alloc o).heap.size (w1.alloc o) w') := fun o => Go.Proofs.YtkfiahemgdppfaaGreatDoor.Ts.l04Time_any n _ (rs.map cv) _ HF.out (row_r (HO.out o)) (by rw [List.length_map]; have h2 : rs.length ≤ 255 := HSM.out; omega)
    clear HO o1 b1 HSM
    generalize good n (rs.map cv) = gd at HLT HE
    generalize lOut n (rs.map cv) = lo at HLT
    cases nl with
    | true =>
      go_wp2_with fail
      go_ret
      exact ⟨ret_b (by rw [HE.out]; rfl), HA.out _⟩
    | false =>
      go_wp2_with fail
      refine (HLT.out _).mono ?_
      rintro e w2 ⟨rfl, b2⟩
      have B2 : Hid (Below w.heap.size w w2) := (HA.out _).trans (b2.mono (HA.out _).size)
      clear b2
      go_wp2_with fail
      go_ret
      exact ⟨ret_b (by rw [HE.out]; rfl), B2.out⟩
set_option maxRecDepth 100000 in
set_option maxHeartbeats 1600000 in
theorem implBodyOK_any (n : Int) (s : ByteArray) (w : World) (hf : fCode n = 0) (hs : s.size ≤ 1048576) (hK : KTab w) (hp : 0 < w.heap.size) :
    Calls Tryz.prog 73 #[.int .i64 n, .string s] w fun e w' => e = .returned (.bool (bdP n s)) ∧ Below w.heap.size w w' := by
  obtain ⟨v2, w2, hcv, r2, b2⟩ := bytes_run s w
  have HRB := implReadBatch_any v2 (bys s) w2 r2 (by rw [bys_length]; omega)
  have GK : Hid (KTab w ∧ 0 < w.heap.size) := ⟨hK, hp⟩
  have B2 : Hid (Below w.heap.size w w2) := b2
  have HF : Hid (fCode n = 0) := hf
  clear hK hp b2 r2 hf
  by_cases hc : rbC (bys s) = 0
  · obtain ⟨h65, hok⟩ := c_zero.1 hc
    have h20 := ok_small h65 hok
    have HSM : Hid ((tbX (bys s)).rs.length ≤ 255) := (tbX_small (bys s) (bys_range s) (by rw [bys_length]; omega)).2
    have HE : Hid (bdP n s = ((tbX (bys s)).nl || good n ((tbX (bys s)).rs.map cv))) := by show _ = _; unfold bdP bdB; rw [decide_eq_true h20, hok]; rfl
    rw [x_ok hc, hc] at HRB
    generalize bdP n s = out at HE ⊢
    generalize tbX (bys s) = Y at HRB HE HSM
    obtain ⟨nl, c, st, k, l, nm, rs⟩ := Y
    have HR : Hid (Calls Tryz.prog 106 #[v2] w2 fun e w' => ∃ u, e = .returned (.tuple #[.agg #[.bool nl, .int .i64 c, .int .i64 st, .int .i64 k, .int .i64 l, .string nm, u], .int .i64 0]) ∧ OwnR w' w2.heap.size u rs ∧ Below w2.heap.size w2 w') := HRB
    clear HRB hc h65 hok h20 hs
    go_enter Tryz.func73, Tryz.ntmps73
    go_wp2_with fail
    refine HR.out.mono ?_
    rintro e w3 ⟨u, rfl, o3, b3⟩
    have HA : Hid (∀ o, Below w.heap.size w (w3.alloc o)) := fun o => (B2.out.trans (b3.mono B2.out.size)).alloc (B2.out.trans (b3.mono B2.out.size)).size o
    obtain ⟨ua, ucap, rfl⟩ := RowG.slice (OwnR.row o3)
    have HO : Hid (∀ o, Gr.Row (w3.alloc o) (.slice ua rs.length ucap) rs) := fun o => (OwnR.row o3).below (bel_new _ _)
    have HL : Hid ((rs.map cv).length ≤ 4096) := by show _ ≤ _; rw [List.length_map]; have h2 : rs.length ≤ 255 := HSM.out; omega
    have HRT : Hid (∀ o, Calls Tryz.prog 107 #[.int .i64 n, .slice ua rs.length ucap] (w3.alloc o) fun e w' => e = .returned (.tuple #[.int .i64 (tOut n (rs.map cv)), .int .i64 (tCode n (rs.map cv))]) ∧ Below (w3.alloc o).heap.size (w3.alloc o) w') := fun o => implReadingsTime_any n _ (rs.map cv) _ (row_r (HO.out o)) (by have := HL.out; omega) (GK.out.1.below (HA.out o) GK.out.2) (Nat.lt_of_lt_of_le GK.out.2 (HA.out o).size)
    have HTG : Hid (((tCode n (rs.map cv) == 0) : Bool) = good n (rs.map cv)) := t_good HF.out HL.out
    clear HO HL o3 b3 HSM
    generalize good n (rs.map cv) = gd at HTG HE
    generalize tCode n (rs.map cv) = tc at HRT HTG
    generalize tOut n (rs.map cv) = lo at HRT
    cases nl with
    | true =>
      go_wp2_with fail
      go_ret
      exact ⟨ret_b (by rw [HE.out]; rfl), HA.out _⟩
    | false =>
      go_wp2_with fail
      refine (HRT.out _).mono ?_
      rintro e w4 ⟨rfl, b4⟩
      have B4 : Hid (Below w.heap.size w w4) := (HA.out _).trans (b4.mono (HA.out _).size)
      clear b4
      go_wp2_with fail
      go_ret
      exact ⟨ret_b (by rw [HE.out, HTG.out]; rfl), B4.out⟩
  · have HE : Hid (bdP n s = false) := by
      show _ = _
      unfold bdP bdB
      by_cases h20 : s.size ≤ 20000
      · have : rbOK (bys s) = false := by
          cases e : rbOK (bys s) with
          | false => rfl
          | true => exact absurd (c_zero.2 ⟨by omega, e⟩) hc
        rw [this, Bool.false_and, Bool.and_false]
      · rw [decide_eq_false h20]; rfl
    have hc' : (rbC (bys s) != 0) = true := by simp [hc]
    generalize bdP n s = out at HE ⊢
    generalize rbC (bys s) = C at HRB hc hc'
    generalize rbX (bys s) = Y at HRB
    obtain ⟨nl, c, st, k, l, nm, rs⟩ := Y
    have HR : Hid (Calls Tryz.prog 106 #[v2] w2 fun e w' => ∃ u, e = .returned (.tuple #[.agg #[.bool nl, .int .i64 c, .int .i64 st, .int .i64 k, .int .i64 l, .string nm, u], .int .i64 C]) ∧ OwnR w' w2.heap.size u rs ∧ Below w2.heap.size w2 w') := HRB
    clear HRB hc hs
    go_enter Tryz.func73, Tryz.ntmps73
    go_wp2_with fail
    refine HR.out.mono ?_
    rintro e w3 ⟨u, rfl, o3, b3⟩
    have HA : Hid (∀ o, Below w.heap.size w (w3.alloc o)) := fun o => (B2.out.trans (b3.mono B2.out.size)).alloc (B2.out.trans (b3.mono B2.out.size)).size o
    obtain ⟨ua, ucap, rfl⟩ := RowG.slice (OwnR.row o3)
    clear o3 b3
    go_wp2_with fail
    go_ret
    exact ⟨ret_b HE.out.symm, HA.out _⟩
end Go.Proofs.YtkfiahemgdppfaaGreatDoor.Bw
