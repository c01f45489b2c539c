/- The bytes of a text; what impl takes and what the specification reads are one. -/
import Derived.Test.YtkmnjnblacmjlaaSpReq
import Derived.Test.YtkmnjnblacmjlaaRdReq
namespace Go.Proofs.Ytkmnjnblacmjlaa.Of
open Go.RowKit Go.Proofs.Ytkmnjnblacmjlaa.Sl Go.Proofs.Ytkmnjnblacmjlaa.By Go.Proofs.Ytkmnjnblacmjlaa.Ap Go.Proofs.Ytkmnjnblacmjlaa.Rq Go.Proofs.Ytkmnjnblacmjlaa.Rr

theorem bys_str (xs : List Int) (h : ∀ x ∈ xs, 0 ≤ x ∧ x ≤ 255) : bys (strOfNums xs) = xs := by
  unfold bys
  rw [strOfNums_data, List.map_map]
  apply List.ext_getElem?
  intro i
  rw [List.getElem?_map]
  cases hx : xs[i]? with
  | none => rfl
  | some x =>
    have := h x (List.mem_of_getElem? hx)
    simp only [Option.map_some, Function.comp_apply]
    congr 1
    rw [UInt8.toNat_ofNat_of_lt' (by unfold UInt8.size; omega)]
    omega
theorem str_bys (s : ByteArray) : strOfNums (bys s) = s := by
  unfold bys strOfNums
  rw [List.map_map]
  have : ((fun n : Int => UInt8.ofNat n.toNat) ∘ fun b : UInt8 => ((b.toNat : Nat) : Int)) = id := by
    funext b
    simp
  rw [this, List.map_id]
theorem bys_ext (s : ByteArray) (a b : Nat) : bys (s.extract a b) = ((bys s).take b).drop a := by
  unfold bys
  rw [show (s.extract a b).data = s.data.extract a b from by simp [ByteArray.data_extract], Array.toList_extract, List.extract_eq_take_drop, List.map_take, List.map_drop, List.drop_take]
theorem bys_size (s : ByteArray) : s.size = (bys s).length := (bys_length s).symm

theorem tk_yes {n : Nat} {xs : List Int} (h : n ≤ xs.length) : tkB n xs = xs.take n ∧ tkR n xs = xs.drop n ∧ ∀ sh, tkS n xs sh = sh :=
  ⟨if_neg (by omega), if_neg (by omega), fun sh => by unfold tkS; simp; omega⟩
theorem tk_no {n : Nat} {xs : List Int} (h : xs.length < n) (sh : Bool) : tkS n xs sh = true := by unfold tkS; simp [h]
theorem tk_true (n : Nat) (xs : List Int) : tkS n xs true = true := rfl
theorem txt_true (n : Nat) (xs : List Int) : txtS n xs true = true := rfl
theorem be1 {xs : List Int} (h : 0 < xs.length) : beN (xs.take 1) = nth xs 0 := by
  cases xs with
  | nil => cases h
  | cons x xs => simp [beN, nth]
theorem short7 (xs : List Int) (h : xs.length < 7) : rqSh xs false = true := by
  match xs, h with
  | [], _ => rfl
  | [_], _ => rfl
  | [_, _], _ => rfl
  | [_, _, _], _ => rfl
  | [_, _, _, _], _ => rfl
  | [_, _, _, _, _], _ => rfl
  | [_, _, _, _, _, _], _ => rfl
theorem long7 (xs : List Int) (h : 7 ≤ xs.length) (_hr : ∀ x ∈ xs, 0 ≤ x ∧ x ≤ 255) :
    rqC xs = nth xs 0 ∧ rqS xs = beN ((xs.drop 1).take 2) ∧ rqK xs = nth xs 3 ∧ rqL xs = beN ((xs.drop 4).take 2) ∧ rqT xs = xs.drop 6 ∧ rqSh xs false = txtS 1 (xs.drop 6) false := by
  obtain ⟨a1, a2, a3⟩ := tk_yes (n := 1) (xs := xs) (by omega)
  obtain ⟨b1, b2, b3⟩ := tk_yes (n := 2) (xs := xs.drop 1) (by rw [List.length_drop]; omega)
  rw [List.drop_drop] at b2
  obtain ⟨c1, c2, c3⟩ := tk_yes (n := 1) (xs := xs.drop 3) (by rw [List.length_drop]; omega)
  rw [List.drop_drop] at c2
  obtain ⟨d1, d2, d3⟩ := tk_yes (n := 2) (xs := xs.drop 4) (by rw [List.length_drop]; omega)
  rw [List.drop_drop] at d2
  unfold rqC rqS rqK rqL rqSh rqT
  simp only [a1, a2, a3, b1, b2, b3, c1, c2, c3, d1, d2, d3, Nat.reduceAdd]
  refine ⟨be1 (by omega), trivial, ?_, trivial, trivial, trivial⟩
  rw [be1 (by rw [List.length_drop]; omega), nth_drop]
theorem txt1 (ys : List Int) (h : 0 < ys.length) (_hr : ∀ x ∈ ys, 0 ≤ x ∧ x ≤ 255) :
    txtN 1 ys = (nth ys 0).toNat ∧ tkR 1 ys = ys.drop 1 ∧ tkS 1 ys false = false := by
  obtain ⟨a1, a2, a3⟩ := tk_yes (n := 1) (xs := ys) (by omega)
  unfold txtN
  rw [a1, be1 h, a2, a3]
  exact ⟨rfl, rfl, rfl⟩
theorem str_at (xs : List Int) (hr : ∀ x ∈ xs, 0 ≤ x ∧ x ≤ 255) (i : Nat) (h : i < (strOfNums xs).size) : (((strOfNums xs)[i]'h).toNat : Int) = nth xs i := by
  rw [← bys_at _ i h, bys_str xs hr]
theorem eq_req_yes (xs : List Int) (hr : ∀ x ∈ xs, 0 ≤ x ∧ x ≤ 255) (h : 6 < (strOfNums xs).size) (hq : (strOfNums xs).size = 7 + ((strOfNums xs)[6]'h).toNat) :
    rqC xs = sC (strOfNums xs) ∧ rqS xs = sS (strOfNums xs) ∧ rqK xs = sK (strOfNums xs) ∧ rqL xs = sL (strOfNums xs) ∧ rqN xs = sN (strOfNums xs) ∧ rqSh xs false = false ∧ rqRest xs = [] := by
  have h6 := str_at xs hr 6 h
  have hz := strOfNums_size xs
  rw [hz] at h
  have hq' : (xs.length : Int) = 7 + nth xs 6 := by rw [← h6, ← hz]; omega
  have h60 := range_at hr 6
  obtain ⟨a1, a2, a3, a4, a5, a6⟩ := long7 xs (by omega) hr
  have hr6 : ∀ x ∈ xs.drop 6, 0 ≤ x ∧ x ≤ 255 := fun x hx => hr x (List.mem_of_mem_drop hx)
  obtain ⟨b1, b2, b3⟩ := txt1 (xs.drop 6) (by rw [List.length_drop]; omega) hr6
  rw [nth_drop] at b1
  rw [List.drop_drop] at b2
  have hl7 : (xs.drop (6 + 1)).length = (nth xs 6).toNat := by rw [List.length_drop]; omega
  obtain ⟨c1, c2, c3⟩ := tk_yes (n := (nth xs 6).toNat) (xs := xs.drop (6 + 1)) (by omega)
  have e7 : bys (strOfNums xs) = xs := bys_str xs hr
  refine ⟨?_, ?_, ?_, ?_, ?_, ?_, ?_⟩
  · rw [a1]; unfold sC; rw [e7]
  · rw [a2]; unfold sS; rw [bys_ext, e7, List.take_drop]
  · rw [a3]; unfold sK; rw [e7]
  · rw [a4]; unfold sL; rw [bys_ext, e7, List.take_drop]
  · unfold rqN txtB
    rw [a5, b1, b2, c1, List.take_of_length_le (by omega)]
    have := str_bys (sN (strOfNums xs))
    rw [← this]
    unfold sN
    rw [bys_ext, e7, hz, List.take_length]
  · rw [a6]; unfold txtS; rw [b1, b2, b3, c3]
  · unfold rqRest txtR; rw [a5, b1, b2, c2, List.drop_drop]; exact List.drop_eq_nil_of_le (by rw [List.length_drop] at hl7; omega)
theorem eq_req_no (xs : List Int) (hr : ∀ x ∈ xs, 0 ≤ x ∧ x ≤ 255) (hno : ∀ h : 6 < (strOfNums xs).size, (strOfNums xs).size ≠ 7 + ((strOfNums xs)[6]'h).toNat) (b : Bool) :
    (!rqSh xs false && ((rqRest xs).isEmpty && b)) = false := by
  have hz := strOfNums_size xs
  by_cases h7 : 7 ≤ xs.length
  · have h : 6 < (strOfNums xs).size := by omega
    have h6 := str_at xs hr 6 h
    have hq := hno h
    have hq' : (xs.length : Int) ≠ 7 + nth xs 6 := by rw [← h6, ← hz]; omega
    have h60 := range_at hr 6
    obtain ⟨a1, a2, a3, a4, a5, a6⟩ := long7 xs (by omega) hr
    have hr6 : ∀ x ∈ xs.drop 6, 0 ≤ x ∧ x ≤ 255 := fun x hx => hr x (List.mem_of_mem_drop hx)
    obtain ⟨b1, b2, b3⟩ := txt1 (xs.drop 6) (by rw [List.length_drop]; omega) hr6
    rw [nth_drop] at b1
    rw [List.drop_drop] at b2
    rw [a6]
    unfold rqRest txtR txtS
    rw [a5, b1, b2, b3]
    by_cases hlt : (xs.drop (6 + 1)).length < (nth xs 6).toNat
    · rw [tk_no hlt]; rfl
    · obtain ⟨c1, c2, c3⟩ := tk_yes (n := (nth xs 6).toNat) (xs := xs.drop (6 + 1)) (by omega)
      rw [c2, c3, List.drop_drop]
      have : (xs.drop (6 + 1 + (nth xs 6).toNat)).isEmpty = false := by
        rw [List.length_drop] at hlt
        cases he : xs.drop (6 + 1 + (nth xs 6).toNat) with
        | nil =>
          have := congrArg List.length he
          rw [List.length_drop] at this
          simp at this
          omega
        | cons y ys => rfl
      rw [this]
      rfl
  · rw [short7 xs (by omega)]
    rfl

theorem rqN_small (xs : List Int) (hx : xs.length ≤ 1048576) : (rqN xs).size ≤ maxLen := by
  have h1 : ∀ n (ys : List Int), (tkB n ys).length ≤ ys.length := by intro n ys; unfold tkB; split; simp; rw [List.length_take]; omega
  have h2 := h1 (txtN 1 (rqT xs)) (tkR 1 (rqT xs))
  have h3 := tkR_len 1 (rqT xs)
  have h4 : (rqT xs).length ≤ xs.length := Nat.le_trans (tkR_len _ _) (Nat.le_trans (tkR_len _ _) (Nat.le_trans (tkR_len _ _) (tkR_len _ _)))
  unfold rqN txtB maxLen
  rw [strOfNums_size]
  omega
/-- What both answer. -/
def readReq (xs : List Int) : Value := rjV zreq #[.int .i64 (rqC xs), .int .i64 (rqS xs), .int .i64 (rqK xs), .int .i64 (rqL xs), .string (rqN xs)] (decide (65536 < xs.length)) (!rqSh xs false && ((rqRest xs).isEmpty && reqB (rqC xs) (rqS xs) (rqK xs) (rqL xs) (rqN xs)))
theorem readReq_form (xs : List Int) : ∃ (c st k l : Int) (n : ByteArray) (code : Int), readReq xs = .tuple #[.agg #[.int .i64 c, .int .i64 st, .int .i64 k, .int .i64 l, .string n], .int .i64 code] := by
  unfold readReq rjV
  split
  · exact ⟨0, 0, 0, 0, ⟨#[]⟩, 2, rfl⟩
  · split
    · exact ⟨_, _, _, _, _, 0, rfl⟩
    · exact ⟨0, 0, 0, 0, ⟨#[]⟩, 3, rfl⟩

end Go.Proofs.Ytkmnjnblacmjlaa.Of
