/- A batch is read: what the specification's reading is. -/
import Derived.Test.YtkmnjnblacmjlaaRjb
import Derived.Test.YtkmnjnblacmjlaaSpReq
import Derived.Test.YtkmnjnblacmjlaaBo3
namespace Go.Proofs.Ytkmnjnblacmjlaa.Tkb
open Go.RowKit Go.Proofs.Ytkmnjnblacmjlaa.Sl Go.Proofs.Ytkmnjnblacmjlaa.By Go.Proofs.Ytkmnjnblacmjlaa.Ap Go.Proofs.Ytkmnjnblacmjlaa.Rq Go.Proofs.Ytkmnjnblacmjlaa.Rr Go.Proofs.Ytkmnjnblacmjlaa.Gr Go.Proofs.Ytkmnjnblacmjlaa.Bo Go.Proofs.Ytkmnjnblacmjlaa.Of
open Go.Proofs.Ytkmnjnblacmjlaa.Rg (RowG RowG.slice RowG.at lt_at mem_at bel_new)

theorem tkR_length (n : Nat) (xs : List Int) : (tkR n xs).length = xs.length - n := by
  unfold tkR
  split
  · simp; omega
  · rw [List.length_drop]
theorem rd_short {ys : List Int} {sh : Bool} (h : ys.length < 13) : rdSh ys sh = true := by
  have l1 := tkR_length 1 ys
  have l4 := tkR_length 4 (tkR 1 ys)
  unfold rdSh tkS
  simp
  omega
theorem rd_long {ys : List Int} (h : 13 ≤ ys.length) : rdSh ys false = false ∧ rdRest ys = ys.drop 13 ∧ rd1 ys = ⟨nth ys 0, beN ((ys.drop 1).take 4), strOfNums ((ys.drop 5).take 8)⟩ := by
  obtain ⟨a1, a2, a3⟩ := tk_yes (n := 1) (xs := ys) (by omega)
  obtain ⟨b1, b2, b3⟩ := tk_yes (n := 4) (xs := ys.drop 1) (by rw [List.length_drop]; omega)
  obtain ⟨c1, c2, c3⟩ := tk_yes (n := 8) (xs := ys.drop 5) (by rw [List.length_drop]; omega)
  rw [List.drop_drop] at b2 c2
  unfold rdSh rdRest rd1
  rw [a1, a2, a3, b1, b2, b3, c1, c2, c3, be1 (by omega)]
  exact ⟨rfl, rfl, rfl⟩
theorem b_long (ys : List Int) : ∀ k, 13 * k ≤ ys.length → bS ys false k = false ∧ bR ys k = ys.drop (13 * k)
  | 0, _ => ⟨rfl, rfl⟩
  | k + 1, h => by
    obtain ⟨h1, h2⟩ := b_long ys k (by omega)
    obtain ⟨h3, h4, _⟩ := rd_long (ys := ys.drop (13 * k)) (by rw [List.length_drop]; omega)
    show rdSh (bR ys k) (bS ys false k) = false ∧ rdRest (bR ys k) = _
    rw [h1, h2, h3, h4, List.drop_drop]
    exact ⟨rfl, by congr 1⟩
theorem b_short (ys : List Int) (sh : Bool) : ∀ k, ys.length < 13 * k → bS ys sh k = true
  | 0, h => absurd h (by omega)
  | k + 1, h => by
    unfold bS
    by_cases h1 : ys.length < 13 * k
    · rw [b_short ys sh k h1]; rfl
    · rw [(b_long ys k (by omega)).2]
      exact rd_short (by rw [List.length_drop]; omega)
theorem rd_of {p : ByteArray} {zs : List Int} (hp : bys p = zs.take 13) (hl : 13 ≤ zs.length) (h0 : 0 < p.size) : rd1 zs = ⟨((p[0]'h0).toNat : Int), beN (bys (p.extract 1 5)), p.extract 5 p.size⟩ := by
  rw [(rd_long hl).2.2, ← bys_at p 0 h0, bys_ext, ← str_bys (p.extract 5 p.size), bys_ext, bys_size p, hp, List.length_take, List.take_take, List.take_take, nth_take (by omega)]
  have e1 : min 5 13 = 5 := rfl
  have e2 : min (min 13 zs.length) 13 = 13 := by omega
  rw [e1, e2, List.drop_take, List.drop_take]
/-- Whether bytes tell a request. -/
def qOK (zs : List Int) : Bool := !rqSh zs false && ((rqRest zs).isEmpty && reqB (rqC zs) (rqS zs) (rqK zs) (rqL zs) (rqN zs))
theorem read_req (xs : List Int) (hr : ∀ x ∈ xs, 0 ≤ x ∧ x ≤ 255) (hs : xs.length ≤ 65536) (w : World) :
    Calls Try.prog 15 #[.string (strOfNums xs)] w fun e w' => (∃ (c st k l : Int) (n : ByteArray), e = .returned (.tuple #[.agg #[.int .i64 c, .int .i64 st, .int .i64 k, .int .i64 l, .string n], .bool (qOK xs)]) ∧ (qOK xs = true → c = rqC xs ∧ st = rqS xs ∧ k = rqK xs ∧ l = rqL xs ∧ n = rqN xs) ∧ n.size ≤ maxLen) ∧ Below w.heap.size w w' := by
  have hz := strOfNums_size xs
  by_cases hq : ∃ h : 6 < (strOfNums xs).size, (strOfNums xs).size = 7 + ((strOfNums xs)[6]'h).toNat
  · obtain ⟨h6, hq⟩ := hq
    obtain ⟨e1, e2, e3, e4, e5, e6, e7⟩ := eq_req_yes xs hr h6 hq
    refine (l02ReadRequest_yes (strOfNums xs) w (by omega) h6 hq).mono ?_
    rintro e w' ⟨rfl, b⟩
    have hK : qOK xs = reqB (sC (strOfNums xs)) (sS (strOfNums xs)) (sK (strOfNums xs)) (sL (strOfNums xs)) (sN (strOfNums xs)) := by
      unfold qOK
      rw [e1, e2, e3, e4, e5, e6, e7]
      rfl
    refine ⟨⟨_, _, _, _, _, by rw [hK], fun _ => ⟨e1.symm, e2.symm, e3.symm, e4.symm, e5.symm⟩, ?_⟩, b⟩
    unfold sN
    rw [ext_size]
    unfold maxLen
    omega
  · have hK : qOK xs = false := eq_req_no xs hr (fun h hn => hq ⟨h, hn⟩) _
    refine (l02ReadRequest_no (strOfNums xs) w (by omega) (fun h hn => hq ⟨h, hn⟩)).mono ?_
    rintro e w' ⟨rfl, b⟩
    refine ⟨⟨0, 0, 0, 0, ⟨#[]⟩, by rw [hK]; rfl, fun h => absurd (hK.symm.trans h) (by decide), by show (0 : Nat) ≤ _; omega⟩, b⟩
/-- What bytes tell, case by case. -/
theorem rb_nil : rbOK [] = false := rfl
theorem rb_null {xs : List Int} (hl : 0 < xs.length) (h0 : cnt xs = 0) : rbOK xs = decide (xs.length = 1) ∧ tbX xs = ⟨true, 0, 0, 0, 0, ⟨#[]⟩, []⟩ := by
  obtain ⟨_, a2, a3⟩ := tk_yes (n := 1) (xs := xs) (by omega)
  unfold rbOK tbS tbR tbX
  rw [if_pos h0, if_pos h0, if_pos h0, a2, a3]
  have hB : bOKx ⟨true, 0, 0, 0, 0, ⟨#[]⟩, []⟩ = true := by simp [bOKx, bOK, zB]
  rw [hB]
  refine ⟨?_, rfl⟩
  match xs, hl with
  | [_], _ => rfl
  | _ :: _ :: _, _ => simp
theorem rb_few {xs : List Int} (hl : 0 < xs.length) (h0 : 0 < cnt xs) (h : xs.length < 1 + 13 * (cnt xs - 1)) : rbOK xs = false := by
  obtain ⟨_, a2, a3⟩ := tk_yes (n := 1) (xs := xs) (by omega)
  unfold rbOK tbS
  rw [if_neg (by omega), a2, a3, b_short _ _ _ (by rw [List.length_drop]; omega)]
  rfl
theorem rb_many {xs : List Int} (h0 : 0 < cnt xs) (h : 1 + 13 * (cnt xs - 1) ≤ xs.length) : rbOK xs = (qOK (tbZ xs) && bOKx (tbX xs)) ∧ tbZ xs = xs.drop (1 + 13 * (cnt xs - 1)) ∧ tbX xs = ⟨false, rqC (tbZ xs), rqS (tbZ xs), rqK (tbZ xs), rqL (tbZ xs), rqN (tbZ xs), bL (xs.drop 1) (cnt xs - 1)⟩ := by
  obtain ⟨_, a2, a3⟩ := tk_yes (n := 1) (xs := xs) (by omega)
  obtain ⟨b1, b2⟩ := b_long (xs.drop 1) (cnt xs - 1) (by rw [List.length_drop]; omega)
  have hX : tbX xs = ⟨false, rqC (tbZ xs), rqS (tbZ xs), rqK (tbZ xs), rqL (tbZ xs), rqN (tbZ xs), bL (xs.drop 1) (cnt xs - 1)⟩ := by
    unfold tbX
    rw [if_neg (by omega), a2]
  refine ⟨?_, ?_, hX⟩
  · unfold rbOK tbS tbR
    rw [if_neg (by omega), if_neg (by omega), hX, a2, a3, b1]
    unfold qOK bOKx bOK
    cases rqSh (tbZ xs) false <;> cases (rqRest (tbZ xs)).isEmpty <;> cases reqB (rqC (tbZ xs)) (rqS (tbZ xs)) (rqK (tbZ xs)) (rqL (tbZ xs)) (rqN (tbZ xs)) <;> simp_all
  · unfold tbZ
    rw [a2, b2, List.drop_drop]
end Go.Proofs.Ytkmnjnblacmjlaa.Tkb
