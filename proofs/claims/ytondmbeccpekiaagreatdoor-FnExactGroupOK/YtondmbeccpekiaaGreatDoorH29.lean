/- Texts put together: Wb, Bw, Bd. -/
import Derived.Test.YtondmbeccpekiaaGreatDoorH28
import Derived.Test.YtondmbeccpekiaaGreatDoorH8
import Derived.Test.YtondmbeccpekiaaGreatDoorH25
import Derived.Test.YtondmbeccpekiaaGreatDoorH21
import Derived.Test.YtondmbeccpekiaaGreatDoorH27
import Derived.Test.YtondmbeccpekiaaGreatDoorH12
import Derived.Test.YtondmbeccpekiaaGreatDoorH14
import Derived.Lib.FrozenHead
/- Requests, messages and batches are read back from their bytes, and written again: of no program. -/
namespace Go.Proofs.YtondmbeccpekiaaGreatDoor.Wb
open Go.RowKit Go.Proofs.YtondmbeccpekiaaGreatDoor.Sl Go.Proofs.YtondmbeccpekiaaGreatDoor.By Go.Proofs.YtondmbeccpekiaaGreatDoor.Ap Go.Proofs.YtondmbeccpekiaaGreatDoor.Rq Go.Proofs.YtondmbeccpekiaaGreatDoor.Rr Go.Proofs.YtondmbeccpekiaaGreatDoor.Pu Go.Proofs.YtondmbeccpekiaaGreatDoor.Rp Go.Proofs.YtondmbeccpekiaaGreatDoor.Mp Go.Proofs.YtondmbeccpekiaaGreatDoor.Ms Go.Proofs.YtondmbeccpekiaaGreatDoor.Of Go.Proofs.YtondmbeccpekiaaGreatDoor.Om Go.Proofs.YtondmbeccpekiaaGreatDoor.Gr Go.Proofs.YtondmbeccpekiaaGreatDoor.Bo Go.Proofs.YtondmbeccpekiaaGreatDoor.Bt Go.Proofs.YtondmbeccpekiaaGreatDoor.Tkb

theorem be1 {x : Int} (h0 : 0 ≤ x) (h1 : x ≤ 255) : beN (nums x 1 1) = x := by
  have e : nums x 1 1 = [nb x 0] := rfl
  rw [e]
  have e0 : nb x 0 = x := by show x / 1 % 256 = x; omega
  simp [beN, e0]
/-! what was taken is written again -/
theorem tk_join {n : Nat} {xs : List Int} {sh : Bool} (h : tkS n xs sh = false) : tkB n xs ++ tkR n xs = xs ∧ (tkB n xs).length = n ∧ sh = false := by
  obtain ⟨h1, h2⟩ := tkS_false.1 h
  rw [tkB_yes h2, tkR_yes h2, List.take_append_drop, List.length_take]
  exact ⟨rfl, by omega, h1⟩
theorem nums_be1 {xs : List Int} (hr : ∀ x ∈ xs, 0 ≤ x ∧ x ≤ 255) (h : xs.length = 1) : nums (beN xs) 1 1 = xs := by
  match xs, h with
  | [a], _ =>
    have ha := hr a (by simp)
    have e : beN [a] = a := by simp [beN]
    rw [e]
    show [a / 1 % 256] = [a]
    congr 1
    omega
theorem nums_be2 {xs : List Int} (hr : ∀ x ∈ xs, 0 ≤ x ∧ x ≤ 255) (h : xs.length = 2) : nums (beN xs) 2 2 = xs := by
  match xs, h with
  | [a, b], _ =>
    have ha := hr a (by simp)
    have hb := hr b (by simp)
    have e : beN [a, b] = a * 256 + b := by simp [beN]
    rw [e]
    have e0 : (a * 256 + b) / 256 % 256 = a := by omega
    have e1 : (a * 256 + b) / 1 % 256 = b := by omega
    show [(a * 256 + b) / 256 % 256, (a * 256 + b) / 1 % 256] = [a, b]
    rw [e0, e1]
theorem nums_be4 {xs : List Int} (hr : ∀ x ∈ xs, 0 ≤ x ∧ x ≤ 255) (h : xs.length = 4) : nums (beN xs) 4 4 = xs := by
  match xs, h with
  | [a, b, c, d], _ =>
    have ha := hr a (by simp)
    have hb := hr b (by simp)
    have hc := hr c (by simp)
    have hd := hr d (by simp)
    have e : beN [a, b, c, d] = ((a * 256 + b) * 256 + c) * 256 + d := by simp [beN]
    rw [e]
    have e0 : (((a * 256 + b) * 256 + c) * 256 + d) / 16777216 % 256 = a := by omega
    have e1 : (((a * 256 + b) * 256 + c) * 256 + d) / 65536 % 256 = b := by omega
    have e2 : (((a * 256 + b) * 256 + c) * 256 + d) / 256 % 256 = c := by omega
    have e3 : (((a * 256 + b) * 256 + c) * 256 + d) / 1 % 256 = d := by omega
    show [(((a * 256 + b) * 256 + c) * 256 + d) / 16777216 % 256, (((a * 256 + b) * 256 + c) * 256 + d) / 65536 % 256, (((a * 256 + b) * 256 + c) * 256 + d) / 256 % 256, (((a * 256 + b) * 256 + c) * 256 + d) / 1 % 256] = [a, b, c, d]
    rw [e0, e1, e2, e3]
theorem txt_join {n : Nat} {xs : List Int} {sh : Bool} (hr : ∀ x ∈ xs, 0 ≤ x ∧ x ≤ 255) (hn : n = 1 ∨ n = 2) (h : txtS n xs sh = false) : nums ((txtB n xs).size : Int) n n ++ (bys (txtB n xs) ++ txtR n xs) = xs ∧ sh = false := by
  unfold txtS at h
  obtain ⟨a1, a2, a3⟩ := tk_join h
  obtain ⟨b1, b2, b3⟩ := tk_join a3
  have hr2 := tkR_range (n := n) hr
  have e1 : bys (txtB n xs) = tkB (txtN n xs) (tkR n xs) := by unfold txtB; exact bys_str _ (tkB_range hr2)
  have e2 : ((txtB n xs).size : Int) = beN (tkB n xs) := by
    rw [bys_size, e1, a2, (txtN_le n xs (by omega) hr).2]
  have e3 : nums (beN (tkB n xs)) n n = tkB n xs := by
    rcases hn with rfl | rfl
    · exact nums_be1 (tkB_range hr) b2
    · exact nums_be2 (tkB_range hr) b2
  refine ⟨?_, b3⟩
  rw [e2, e3, e1]
  unfold txtR
  rw [a1, b1]
theorem req_again {xs : List Int} {sh : Bool} (hr : ∀ x ∈ xs, 0 ≤ x ∧ x ≤ 255) (h : rqSh xs sh = false) : reqBs (rqC xs) (rqS xs) (rqK xs) (rqL xs) (rqN xs) ++ rqRest xs = xs ∧ sh = false := by
  unfold rqSh at h
  have r1 := tkR_range (n := 1) hr
  have r2 := tkR_range (n := 2) r1
  have r3 := tkR_range (n := 1) r2
  have r4 := tkR_range (n := 2) r3
  obtain ⟨t1, t2⟩ := txt_join r4 (.inl rfl) h
  obtain ⟨a1, a2, a3⟩ := tk_join t2
  obtain ⟨b1, b2, b3⟩ := tk_join a3
  obtain ⟨c1, c2, c3⟩ := tk_join b3
  obtain ⟨d1, d2, d3⟩ := tk_join c3
  refine ⟨?_, d3⟩
  unfold reqBs rqN rqRest rqC rqS rqK rqL rqT
  simp only [List.append_assoc]
  rw [t1, nums_be1 (tkB_range hr) d2, nums_be2 (tkB_range r1) c2, nums_be1 (tkB_range r2) b2, nums_be2 (tkB_range r3) a2, a1, b1, c1, d1]
/-! batches -/
theorem rd_again {xs : List Int} {sh : Bool} (hr : ∀ x ∈ xs, 0 ≤ x ∧ x ≤ 255) (h : rdSh xs sh = false) : rdBs (rd1 xs) ++ rdRest xs = xs ∧ sh = false := by
  unfold rdSh at h
  have r1 := tkR_range (n := 1) hr
  have r2 := tkR_range (n := 4) r1
  obtain ⟨a1, a2, a3⟩ := tk_join h
  obtain ⟨b1, b2, b3⟩ := tk_join a3
  obtain ⟨c1, c2, c3⟩ := tk_join b3
  refine ⟨?_, c3⟩
  unfold rdBs rd1 rdRest
  dsimp only
  simp only [List.append_assoc]
  rw [bys_str _ (tkB_range r2), a1, nums_be4 (tkB_range r1) b2, b1, nums_be1 (tkB_range hr) c2, c1]
theorem rs_again {xs : List Int} {sh : Bool} (hr : ∀ x ∈ xs, 0 ≤ x ∧ x ≤ 255) : ∀ k, bS xs sh k = false → rsBs (bL xs k) ++ bR xs k = xs ∧ sh = false
  | 0, h => ⟨rfl, h⟩
  | k + 1, h => by
    have h' : rdSh (bR xs k) (bS xs sh k) = false := h
    obtain ⟨e1, e2⟩ := rd_again (bR_range hr k) h'
    obtain ⟨i1, i2⟩ := rs_again hr k e2
    refine ⟨?_, i2⟩
    have : rsBs (bL xs (k + 1)) = rsBs (bL xs k) ++ rdBs (rd1 (bR xs k)) := by
      show (bL xs k ++ [rd1 (bR xs k)]).flatMap rdBs = _
      rw [List.flatMap_append]
      simp [rsBs]
    rw [this, List.append_assoc]
    show rsBs (bL xs k) ++ (rdBs (rd1 (bR xs k)) ++ rdRest (bR xs k)) = xs
    rw [e1, i1]
theorem bat_again {xs : List Int} (hr : ∀ x ∈ xs, 0 ≤ x ∧ x ≤ 255) (h : rbC xs = 0) : bOKx (rbX xs) = true ∧ batBs (rbX xs).nl (rbX xs).c (rbX xs).st (rbX xs).k (rbX xs).l (rbX xs).n (rbX xs).rs = xs := by
  have h65 : ¬ 65536 < xs.length := fun hb => by unfold rbC rjC at h; rw [decide_eq_true hb] at h; cases h
  have ok : rbOK xs = true := by
    cases e : rbOK xs with
    | true => rfl
    | false => unfold rbC rjC at h; rw [decide_eq_false h65, e] at h; cases h
  have hX : rbX xs = tbX xs := by unfold rbX rjX; rw [ok, decide_eq_false h65]; rfl
  unfold rbOK at ok
  simp only [Bool.and_eq_true, Bool.not_eq_true'] at ok
  obtain ⟨hS, hE, hO⟩ := ok
  have hE' : tbR xs = [] := List.isEmpty_iff.1 hE
  rw [hX]
  refine ⟨hO, ?_⟩
  obtain ⟨n1, n2⟩ := cnt_eq hr
  by_cases h0 : cnt xs = 0
  · unfold tbS at hS
    unfold tbR at hE'
    rw [if_pos h0] at hS hE'
    obtain ⟨a1, a2, a3⟩ := tk_join hS
    unfold tbX
    rw [if_pos h0]
    show [0] = xs
    have e := nums_be1 (tkB_range (n := 1) hr) a2
    rw [n1, h0] at e
    rw [hE', List.append_nil] at a1
    rw [← a1, ← e]
    rfl
  · unfold tbS at hS
    unfold tbR at hE'
    rw [if_neg h0] at hS hE'
    have r1 := tkR_range (n := 1) hr
    have rz : ∀ x ∈ tbZ xs, 0 ≤ x ∧ x ≤ 255 := bR_range r1 _
    obtain ⟨q1, q2⟩ := req_again rz hS
    obtain ⟨s1, s2⟩ := rs_again r1 (cnt xs - 1) q2
    obtain ⟨a1, a2, a3⟩ := tk_join s2
    have e := nums_be1 (tkB_range (n := 1) hr) a2
    rw [n1] at e
    unfold tbX
    rw [if_neg h0]
    rw [hE', List.append_nil] at q1
    dsimp only
    unfold batBs
    rw [if_neg (by decide)]
    rw [bL_len, show ((cnt xs - 1 : Nat) : Int) + 1 = (cnt xs : Int) by omega, e, q1, List.append_assoc]
    unfold tbZ
    rw [s1, a1]
end Go.Proofs.YtondmbeccpekiaaGreatDoor.Wb

/- Bodies that are right, of the program and of the specification. -/
namespace Go.Proofs.YtondmbeccpekiaaGreatDoor.Bw
open Go.RowKit Go.Proofs.YtondmbeccpekiaaGreatDoor.Sl Go.Proofs.YtondmbeccpekiaaGreatDoor.By Go.Proofs.YtondmbeccpekiaaGreatDoor.Ap Go.Proofs.YtondmbeccpekiaaGreatDoor.Sh Go.Proofs.YtondmbeccpekiaaGreatDoor.Ho Go.Proofs.YtondmbeccpekiaaGreatDoor.Tm Go.Proofs.YtondmbeccpekiaaGreatDoor.Tkb
open Go.Proofs.YtondmbeccpekiaaGreatDoor.Ti (implReadingsTime_any tCode tOut t_cases)
open Go.Proofs.YtondmbeccpekiaaGreatDoor.Ts (good lOut)
open Go.Proofs.YtondmbeccpekiaaGreatDoor.Wb (bat_again)
open Go.Proofs.YtondmbeccpekiaaGreatDoor.Rg (RowG RowG.slice RowG.at lt_at mem_at bel_new blk_cell)

theorem ret_b {a b : Bool} (h : a = b) : Ending.returned (.bool a) = .returned (.bool b) := by rw [h]
def cv (x : Gr.Rd) : Rw.Rd := ⟨x.f, x.x, x.m⟩
theorem row_r {w : World} {v : Value} {xs : List Gr.Rd} (h : Gr.Row w v xs) : Rw.RowR w v (xs.map cv) := by
  obtain ⟨a, cap, rfl, h⟩ := h
  refine ⟨a, cap, by rw [List.length_map], ?_⟩
  rcases h with rfl | ⟨b, off, rfl, hc, hlt, h⟩
  · exact .inl rfl
  · refine .inr ⟨b, off, rfl, by rw [List.length_map]; exact hc, hlt, fun i hi => ?_⟩
    rw [List.length_map] at hi
    have e : xs[i]? = some xs[i] := List.getElem?_eq_getElem hi
    have r : Rw.rn (xs.map cv) i = cv xs[i] := by unfold Rw.rn; rw [List.getD_eq_getElem?_getD, List.getElem?_map, e]; rfl
    rw [r]
    exact h i _ e
def bdB (n : Int) (s : ByteArray) : Bool := rbOK (bys s) && ((tbX (bys s)).nl || good n ((tbX (bys s)).rs.map cv))
def bdP (n : Int) (s : ByteArray) : Bool := decide (s.size ≤ 20000) && bdB n s
theorem ok_small {s : ByteArray} (hs : s.size ≤ 65536) (h : rbOK (bys s) = true) : s.size ≤ 20000 := by
  have hl := bys_length s
  have hc : rbC (bys s) = 0 := by unfold rbC rjC; rw [decide_eq_false (by omega), h]; rfl
  obtain ⟨h1, h2⟩ := bat_again (bys_range s) hc
  rw [← hl, ← h2]
  unfold bOKx at h1
  generalize rbX (bys s) = X at h1
  obtain ⟨nl, c, st, k, l, nm, rs⟩ := X
  unfold Bt.batBs
  cases nl with
  | true => show (1 : Nat) ≤ 20000; decide
  | false =>
    obtain ⟨p1, p2, p3, _, _⟩ : nm.size ≤ 12 ∧ rs.length ≤ 7 ∧ (∀ x ∈ rs, x.m.size = 8) ∧ Rq.reqB c st k l nm = true ∧ Bo.rOK 0 rs = true := Bt.bOK_parts h1
    simp only [Bool.false_eq_true, if_false, List.length_append, Pu.nums_length, Bt.rsBs_len _ p3, Rp.reqBs_length]
    omega
theorem c_zero {s : ByteArray} : rbC (bys s) = 0 ↔ s.size ≤ 65536 ∧ rbOK (bys s) = true := by
  have hl := bys_length s
  unfold rbC rjC
  by_cases h : 65536 < (bys s).length
  · rw [decide_eq_true h]; simp; omega
  · rw [decide_eq_false h]
    cases rbOK (bys s) <;> simp; omega
theorem x_ok {s : ByteArray} (h : rbC (bys s) = 0) : rbX (bys s) = tbX (bys s) := by
  obtain ⟨h1, h2⟩ := c_zero.1 h
  have hl := bys_length s
  unfold rbX rjX
  rw [decide_eq_false (by omega), h2]; rfl
theorem t_good {n : Int} {rs : List Rw.Rd} (hf : fCode n = 0) (hl : rs.length ≤ 4096) : ((tCode n rs == 0) : Bool) = good n rs := by
  unfold tCode good
  rw [if_neg (by omega), if_neg (by omega)]
  by_cases h1 : (rs.length : Int) = 2 * fOut n + 1
  · rw [decide_eq_true h1]
    cases h2 : (Rs.okAll rs && Rs.mkAll n rs) with
    | true => rw [if_pos ⟨h1, rfl⟩]; rfl
    | false => rw [if_neg (by simp)]; rfl
  · rw [decide_eq_false h1, if_neg (by intro h; exact h1 h.1)]; rfl
set_option maxRecDepth 100000 in
set_option maxHeartbeats 1600000 in
theorem l06Body_any (n : Int) (s : ByteArray) (w : World) (hf : fCode n = 0) (hs : s.size ≤ 20000) :
    Calls Tryz.prog 62 #[.int .i64 n, .string s] w fun e w' => e = .returned (.bool (bdB n s)) ∧ Below w.heap.size w w' := by
  have HRB := l02ReadBatch_any s w (by omega)
  have HSM : Hid ((tbX (bys s)).rs.length ≤ 255) := (tbX_small (bys s) (bys_range s) (by rw [bys_length]; omega)).2
  have HE : Hid (bdB n s = (rbOK (bys s) && ((tbX (bys s)).nl || good n ((tbX (bys s)).rs.map cv)))) := rfl
  have HF : Hid (fCode n = 0) := hf
  clear hf hs
  generalize bdB n s = out at HE ⊢
  generalize rbOK (bys s) = ok at HRB HE
  generalize tbX (bys s) = Y at HRB HE HSM
  have HR : Hid (Calls Tryz.prog 90 #[.string s] w fun e w' => ∃ (x : Bv) (u : Value), e = .returned (.tuple #[.agg #[.bool x.nl, .int .i64 x.c, .int .i64 x.st, .int .i64 x.k, .int .i64 x.l, .string x.n, u], .bool ok]) ∧ (ok = true → x = Y) ∧ OwnR w' w.heap.size u x.rs ∧ Below w.heap.size w w') := HRB
  clear HRB
  go_enter Tryz.func62, Tryz.ntmps62
  go_wp2_with fail
  refine HR.out.mono ?_
  rintro e w1 ⟨X, u, rfl, hX, o1, b1⟩
  have HA : Hid (∀ o, Below w.heap.size w (w1.alloc o)) := fun o => b1.alloc b1.size o
  obtain ⟨ua, ucap, rfl⟩ := RowG.slice (OwnR.row o1)
  cases ok with
  | false =>
    clear hX o1 b1
    go_wp2_with fail
    go_ret
    exact ⟨ret_b (by rw [HE.out]; rfl), HA.out _⟩
  | true =>
    obtain rfl := hX rfl
    obtain ⟨nl, c, st, k, l, nm, rs⟩ := X
    have HO : Hid (∀ o, Gr.Row (w1.alloc o) (.slice ua rs.length ucap) rs) := fun o => (OwnR.row o1).below (bel_new _ _)
    have HLT : Hid (∀ o, Calls Tryz.prog 91 #[.int .i64 n, .slice ua rs.length ucap] (w1.alloc o) fun e w' => e = .returned (.tuple #[.int .i64 (lOut n (rs.map cv)), .bool (good n (rs.map cv))]) ∧ Below (w1.alloc o).heap.size (w1.alloc o) w') := fun o => Go.Proofs.YtondmbeccpekiaaGreatDoor.Ts.l04Time_any n _ (rs.map cv) _ HF.out (row_r (HO.out o)) (by rw [List.length_map]; have h2 : rs.length ≤ 255 := HSM.out; omega)
    clear HO o1 b1 HSM
    generalize good n (rs.map cv) = gd at HLT HE
    generalize lOut n (rs.map cv) = lo at HLT
    cases nl with
    | true =>
      go_wp2_with fail
      go_ret
      exact ⟨ret_b (by rw [HE.out]; rfl), HA.out _⟩
    | false =>
      go_wp2_with fail
      refine (HLT.out _).mono ?_
      rintro e w2 ⟨rfl, b2⟩
      have B2 : Hid (Below w.heap.size w w2) := (HA.out _).trans (b2.mono (HA.out _).size)
      clear b2
      go_wp2_with fail
      go_ret
      exact ⟨ret_b (by rw [HE.out]; rfl), B2.out⟩
set_option maxRecDepth 100000 in
set_option maxHeartbeats 1600000 in
theorem implBodyOK_any (n : Int) (s : ByteArray) (w : World) (hf : fCode n = 0) (hs : s.size ≤ 1048576) (hK : KTab w) (hp : 0 < w.heap.size) :
    Calls Tryz.prog 130 #[.int .i64 n, .string s] w fun e w' => e = .returned (.bool (bdP n s)) ∧ Below w.heap.size w w' := by
  obtain ⟨v2, w2, hcv, r2, b2⟩ := bytes_run s w
  have HRB := implReadBatch_any v2 (bys s) w2 r2 (by rw [bys_length]; omega)
  have GK : Hid (KTab w ∧ 0 < w.heap.size) := ⟨hK, hp⟩
  have B2 : Hid (Below w.heap.size w w2) := b2
  have HF : Hid (fCode n = 0) := hf
  clear hK hp b2 r2 hf
  by_cases hc : rbC (bys s) = 0
  · obtain ⟨h65, hok⟩ := c_zero.1 hc
    have h20 := ok_small h65 hok
    have HSM : Hid ((tbX (bys s)).rs.length ≤ 255) := (tbX_small (bys s) (bys_range s) (by rw [bys_length]; omega)).2
    have HE : Hid (bdP n s = ((tbX (bys s)).nl || good n ((tbX (bys s)).rs.map cv))) := by show _ = _; unfold bdP bdB; rw [decide_eq_true h20, hok]; rfl
    rw [x_ok hc, hc] at HRB
    generalize bdP n s = out at HE ⊢
    generalize tbX (bys s) = Y at HRB HE HSM
    obtain ⟨nl, c, st, k, l, nm, rs⟩ := Y
    have HR : Hid (Calls Tryz.prog 143 #[v2] w2 fun e w' => ∃ u, e = .returned (.tuple #[.agg #[.bool nl, .int .i64 c, .int .i64 st, .int .i64 k, .int .i64 l, .string nm, u], .int .i64 0]) ∧ OwnR w' w2.heap.size u rs ∧ Below w2.heap.size w2 w') := HRB
    clear HRB hc h65 hok h20 hs
    go_enter Tryz.func130, Tryz.ntmps130
    go_wp2_with fail
    refine HR.out.mono ?_
    rintro e w3 ⟨u, rfl, o3, b3⟩
    have HA : Hid (∀ o, Below w.heap.size w (w3.alloc o)) := fun o => (B2.out.trans (b3.mono B2.out.size)).alloc (B2.out.trans (b3.mono B2.out.size)).size o
    obtain ⟨ua, ucap, rfl⟩ := RowG.slice (OwnR.row o3)
    have HO : Hid (∀ o, Gr.Row (w3.alloc o) (.slice ua rs.length ucap) rs) := fun o => (OwnR.row o3).below (bel_new _ _)
    have HL : Hid ((rs.map cv).length ≤ 4096) := by show _ ≤ _; rw [List.length_map]; have h2 : rs.length ≤ 255 := HSM.out; omega
    have HRT : Hid (∀ o, Calls Tryz.prog 144 #[.int .i64 n, .slice ua rs.length ucap] (w3.alloc o) fun e w' => e = .returned (.tuple #[.int .i64 (tOut n (rs.map cv)), .int .i64 (tCode n (rs.map cv))]) ∧ Below (w3.alloc o).heap.size (w3.alloc o) w') := fun o => implReadingsTime_any n _ (rs.map cv) _ (row_r (HO.out o)) (by have := HL.out; omega) (GK.out.1.below (HA.out o) GK.out.2) (Nat.lt_of_lt_of_le GK.out.2 (HA.out o).size)
    have HTG : Hid (((tCode n (rs.map cv) == 0) : Bool) = good n (rs.map cv)) := t_good HF.out HL.out
    clear HO HL o3 b3 HSM
    generalize good n (rs.map cv) = gd at HTG HE
    generalize tCode n (rs.map cv) = tc at HRT HTG
    generalize tOut n (rs.map cv) = lo at HRT
    cases nl with
    | true =>
      go_wp2_with fail
      go_ret
      exact ⟨ret_b (by rw [HE.out]; rfl), HA.out _⟩
    | false =>
      go_wp2_with fail
      refine (HRT.out _).mono ?_
      rintro e w4 ⟨rfl, b4⟩
      have B4 : Hid (Below w.heap.size w w4) := (HA.out _).trans (b4.mono (HA.out _).size)
      clear b4
      go_wp2_with fail
      go_ret
      exact ⟨ret_b (by rw [HE.out, HTG.out]; rfl), B4.out⟩
  · have HE : Hid (bdP n s = false) := by
      show _ = _
      unfold bdP bdB
      by_cases h20 : s.size ≤ 20000
      · have : rbOK (bys s) = false := by
          cases e : rbOK (bys s) with
          | false => rfl
          | true => exact absurd (c_zero.2 ⟨by omega, e⟩) hc
        rw [this, Bool.false_and, Bool.and_false]
      · rw [decide_eq_false h20]; rfl
    have hc' : (rbC (bys s) != 0) = true := by simp [hc]
    generalize bdP n s = out at HE ⊢
    generalize rbC (bys s) = C at HRB hc hc'
    generalize rbX (bys s) = Y at HRB
    obtain ⟨nl, c, st, k, l, nm, rs⟩ := Y
    have HR : Hid (Calls Tryz.prog 143 #[v2] w2 fun e w' => ∃ u, e = .returned (.tuple #[.agg #[.bool nl, .int .i64 c, .int .i64 st, .int .i64 k, .int .i64 l, .string nm, u], .int .i64 C]) ∧ OwnR w' w2.heap.size u rs ∧ Below w2.heap.size w2 w') := HRB
    clear HRB hc hs
    go_enter Tryz.func130, Tryz.ntmps130
    go_wp2_with fail
    refine HR.out.mono ?_
    rintro e w3 ⟨u, rfl, o3, b3⟩
    have HA : Hid (∀ o, Below w.heap.size w (w3.alloc o)) := fun o => (B2.out.trans (b3.mono B2.out.size)).alloc (B2.out.trans (b3.mono B2.out.size)).size o
    obtain ⟨ua, ucap, rfl⟩ := RowG.slice (OwnR.row o3)
    clear o3 b3
    go_wp2_with fail
    go_ret
    exact ⟨ret_b HE.out.symm, HA.out _⟩
end Go.Proofs.YtondmbeccpekiaaGreatDoor.Bw

/- BodyDigest of the program and of the specification. -/
namespace Go.Proofs.YtondmbeccpekiaaGreatDoor.Bd
open Go.RowKit Go.Proofs.YtondmbeccpekiaaGreatDoor.Sl Go.Proofs.YtondmbeccpekiaaGreatDoor.By Go.Proofs.YtondmbeccpekiaaGreatDoor.Ap Go.Proofs.YtondmbeccpekiaaGreatDoor.Tx Go.Proofs.YtondmbeccpekiaaGreatDoor.Sh Go.Proofs.YtondmbeccpekiaaGreatDoor.Ho

def bBt : ByteArray := ⟨#[98, 97, 116, 99, 104]⟩
def dig (s : ByteArray) : ByteArray := hashS (bys bBt ++ bys s)
def dOut (s : ByteArray) : ByteArray := if (65531 : Int) < (s.size : Int) then ⟨#[]⟩ else dig s
def dCode (s : ByteArray) : Int := if (65531 : Int) < (s.size : Int) then 2 else 0
theorem ret_sc {s t : ByteArray} {a b : Int} (h : s = t ∧ a = b) : Ending.returned (.tuple #[.string s, .int .i64 a]) = .returned (.tuple #[.string t, .int .i64 b]) := by rw [h.1, h.2]
theorem bt_len (s : ByteArray) : (bys bBt ++ bys s).length = 5 + s.size := by
  rw [List.length_append, bys_length, bys_length]; rfl
theorem hash1_any (v : Value) (xs : List Int) (w : World) (h : RowB w v xs) (hl : xs.length ≤ 65536) :
    Calls Tryz.prog 96 #[v] w fun e w' => e = .returned (.string (hashS xs)) ∧ Below w.heap.size w w' := by
  have e : hashS xs = strOfNums (sha xs) := if_neg (by omega)
  rw [e]
  exact l01Hash_any v xs w h hl
set_option maxRecDepth 100000 in
set_option maxHeartbeats 400000 in
theorem implBodyDigest_any (s : ByteArray) (w : World) (hK : KTab w) (hp : 0 < w.heap.size) :
    Calls Tryz.prog 147 #[.string s] w fun e w' => e = .returned (.tuple #[.string (dOut s), .int .i64 (dCode s)]) ∧ Below w.heap.size w w' := by
  have GK : Hid (KTab w) := hK
  clear hK
  by_cases h : (65531 : Int) < (s.size : Int)
  · have HE : Hid (⟨#[]⟩ = dOut s ∧ 2 = dCode s) := ⟨by unfold dOut; rw [if_pos h], by unfold dCode; rw [if_pos h]⟩
    go_enter Tryz.func147, Tryz.ntmps147
    go_wp2_with fail
    go_ret2
    exact ⟨ret_sc HE.out, Below.refl _ _⟩
  · have HE : Hid (dig s = dOut s ∧ 0 = dCode s) := ⟨by unfold dOut; rw [if_neg h], by unfold dCode; rw [if_neg h]⟩
    have HCT : Hid (cat [bBt, s] = bys bBt ++ bys s) := by
      show _ = _
      unfold cat
      simp only [List.flatMap_cons, List.flatMap_nil, List.append_nil]
    have HD : Hid (hashS (bys bBt ++ bys s) = dig s) := rfl
    go_enter Tryz.func147, Tryz.ntmps147
    go_wp2_with fail
    refine (hashOf_lit w _ 2 rfl _ [bBt, s] rfl rfl (by decide) (by decide) (by rw [HCT.out, bt_len]; omega) GK.out hp).mono ?_
    rintro e w1 ⟨rfl, b1⟩
    rw [HCT.out, HD.out]
    go_wp2_with fail
    go_ret2
    exact ⟨ret_sc HE.out, b1⟩
set_option maxRecDepth 100000 in
set_option maxHeartbeats 400000 in
theorem l06Digest_any (s : ByteArray) (w : World) (h : s.size ≤ 65531) :
    Calls Tryz.prog 93 #[.string s] w fun e w' => e = .returned (.string (dig s)) ∧ Below w.heap.size w w' := by
  have hA : ¬ 9223372036854775807 < (⟨#[98, 97, 116, 99, 104]⟩ : ByteArray).size + s.size := by have : (⟨#[98, 97, 116, 99, 104]⟩ : ByteArray).size = 5 := rfl; omega
  have hA' : ¬ 9223372036854775807 < 5 + s.size := by omega
  obtain ⟨v2, w2, hc2, r2, b2⟩ := bytes_run (bBt ++ s) w
  have hc2' : (convert 9 107 (.string ((⟨#[98, 97, 116, 99, 104]⟩ : ByteArray) ++ s))).run Tryz.prog w = .ok v2 w2 := hc2
  have R2 : Hid (RowB w2 v2 (bys bBt ++ bys s)) := by rw [bys_append] at r2; exact r2
  have B2 : Hid (Below w.heap.size w w2) := b2
  have HD : Hid (hashS (bys bBt ++ bys s) = dig s) := rfl
  clear hc2 r2 b2
  go_enter Tryz.func93, Tryz.ntmps93
  go_wp2_with fail
  refine (hash1_any v2 _ w2 R2.out (by rw [bt_len]; omega)).mono ?_
  rintro e w3 ⟨rfl, b3⟩
  rw [HD.out]
  go_wp2_with fail
  go_ret
  exact ⟨rfl, B2.out.trans (b3.mono B2.out.size)⟩
end Go.Proofs.YtondmbeccpekiaaGreatDoor.Bd
