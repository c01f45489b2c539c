/- A list is read back from its bytes: of no program. -/
import Derived.Test.YtmafigajapkmnaaRl2
import Derived.Test.YtmafigajapkmnaaLb
namespace Go.Proofs.Ytmafigajapkmnaa.Rl
open Go.RowKit Go.Proofs.Ytmafigajapkmnaa.Sl Go.Proofs.Ytmafigajapkmnaa.By Go.Proofs.Ytmafigajapkmnaa.Ap Go.Proofs.Ytmafigajapkmnaa.Rq Go.Proofs.Ytmafigajapkmnaa.Rr Go.Proofs.Ytmafigajapkmnaa.Tx Go.Proofs.Ytmafigajapkmnaa.Tl Go.Proofs.Ytmafigajapkmnaa.Of Go.Proofs.Ytmafigajapkmnaa.Pu Go.Proofs.Ytmafigajapkmnaa.Lb

/-- The bytes of texts, one behind the other. -/
def enc : List ByteArray → List Int
  | [] => []
  | t :: ts => nums (t.size : Int) 2 2 ++ (bys t ++ enc ts)
theorem enc_snoc (ts : List ByteArray) (t : ByteArray) : enc (ts ++ [t]) = enc ts ++ (nums (t.size : Int) 2 2 ++ bys t) := by
  induction ts with
  | nil => simp [enc]
  | cons x xs ih => simp [enc, ih, List.append_assoc]
theorem take_snoc (ts : List ByteArray) (k : Nat) (h : k < ts.length) : ts.take (k + 1) = ts.take k ++ [tnth ts k] := by
  rw [List.take_add_one, List.getElem?_eq_getElem h]; simp [tnth, List.getElem?_eq_getElem h]
theorem listTo_enc (ts : List ByteArray) : ∀ k, k ≤ ts.length → listTo ts k = nums (ts.length : Int) 1 1 ++ enc (ts.take k)
  | 0, _ => by simp [listTo, enc]
  | k + 1, h => by
    unfold listTo
    rw [listTo_enc ts k (by omega), take_snoc ts k (by omega), enc_snoc, List.append_assoc]
theorem nums2 (n : Nat) (h : n ≤ 65535) : nums (n : Int) 2 2 = [((n / 256 : Nat) : Int), ((n % 256 : Nat) : Int)] := by
  have e : nums (n : Int) 2 2 = [nb (n : Int) 1, nb (n : Int) 0] := rfl
  rw [e]
  unfold nb
  congr 1
  · show (n : Int) / 256 % 256 = _; omega
  · congr 1
    show (n : Int) / 1 % 256 = _; omega
theorem nums1 (n : Nat) (h : n ≤ 255) : nums (n : Int) 1 1 = [(n : Int)] := by
  have e : nums (n : Int) 1 1 = [nb (n : Int) 0] := rfl
  rw [e]
  unfold nb
  congr 1
  show (n : Int) / 1 % 256 = _; omega
theorem txt_enc (t : ByteArray) (rest : List Int) (h : t.size ≤ 65535) : txtB 2 (nums (t.size : Int) 2 2 ++ (bys t ++ rest)) = t ∧ txtR 2 (nums (t.size : Int) 2 2 ++ (bys t ++ rest)) = rest ∧ txtS 2 (nums (t.size : Int) 2 2 ++ (bys t ++ rest)) false = false := by
  rw [nums2 _ h]
  obtain ⟨a1, a2, a3⟩ := tk_yes (n := 2) (xs := [((t.size / 256 : Nat) : Int), ((t.size % 256 : Nat) : Int)] ++ (bys t ++ rest)) (by simp)
  have en : txtN 2 ([((t.size / 256 : Nat) : Int), ((t.size % 256 : Nat) : Int)] ++ (bys t ++ rest)) = t.size := by
    unfold txtN
    rw [a1]
    simp [beN]
    omega
  obtain ⟨b1, b2, b3⟩ := tk_yes (n := t.size) (xs := bys t ++ rest) (by rw [List.length_append, bys_length]; omega)
  have a2' : tkR 2 ([((t.size / 256 : Nat) : Int), ((t.size % 256 : Nat) : Int)] ++ (bys t ++ rest)) = bys t ++ rest := by rw [a2]; rfl
  unfold txtB txtR txtS
  rw [en, a2', a3, b1, b2, b3, List.take_append_of_le_length (by rw [bys_length]; omega), List.take_of_length_le (by rw [bys_length]; omega), str_bys, List.drop_append_of_le_length (by rw [bys_length]; omega), List.drop_eq_nil_of_le (by rw [bys_length]; omega)]
  exact ⟨rfl, rfl, rfl⟩
theorem l_enc (ts : List ByteArray) (hs : ∀ t ∈ ts, t.size ≤ 65535) : ∀ k, k ≤ ts.length → lR (enc ts) k = enc (ts.drop k) ∧ lT (enc ts) k = ts.take k ∧ lS (enc ts) false k = false
  | 0, _ => ⟨by simp [lR], by simp [lT], rfl⟩
  | k + 1, h => by
    obtain ⟨h1, h2, h3⟩ := l_enc ts hs k (by omega)
    have hd : ts.drop k = tnth ts k :: ts.drop (k + 1) := by
      rw [List.drop_eq_getElem_cons (by omega)]
      simp [tnth, List.getElem?_eq_getElem (show k < ts.length by omega)]
    have hm : tnth ts k ∈ ts := by unfold tnth; rw [List.getD_eq_getElem?_getD, List.getElem?_eq_getElem (by omega)]; exact List.getElem_mem _
    obtain ⟨e1, e2, e3⟩ := txt_enc (tnth ts k) (enc (ts.drop (k + 1))) (hs _ hm)
    have he : enc (ts.drop k) = nums ((tnth ts k).size : Int) 2 2 ++ (bys (tnth ts k) ++ enc (ts.drop (k + 1))) := by rw [hd]; rfl
    unfold lR lT lS
    rw [h1, h2, h3, he, e1, e2, e3, take_snoc ts k (by omega)]
    exact ⟨rfl, rfl, rfl⟩
/-- What was written is read back. -/
theorem read_back (ts : List ByteArray) (hl : ts.length ≤ 100) (hs : ∀ t ∈ ts, t.size ≤ 20000) (hz : (listTo ts ts.length).length ≤ 65536) : rdC (listTo ts ts.length) = 0 ∧ rdL (listTo ts ts.length) = ts := by
  have hx : listTo ts ts.length = (ts.length : Int) :: enc ts := by rw [listTo_enc ts _ (Nat.le_refl _), nums1 _ (by omega), List.take_length]; rfl
  obtain ⟨h1, h2, h3⟩ := l_enc ts (fun t ht => by have := hs t ht; omega) ts.length (Nat.le_refl _)
  rw [List.drop_length] at h1
  rw [List.take_length] at h2
  have a2 : tkR 1 (listTo ts ts.length) = enc ts := by rw [hx]; rfl
  have a3 : tkS 1 (listTo ts ts.length) false = false := by rw [hx]; rfl
  have an : tlN (listTo ts ts.length) = ts.length := by rw [hx]; simp [tlN, tkB, beN]
  have ok : rdOk (listTo ts ts.length) = true := by
    unfold rdOk
    rw [a2, a3, an, h1, h2, h3]
    have : okT ts = true := by
      unfold okT
      rw [List.all_eq_true.2 (fun t ht => by simpa using hs t ht), decide_eq_true hl]
      rfl
    rw [this]
    rfl
  unfold rdC rdL rlO
  rw [ok, decide_eq_false (by omega), a2, an, h2]
  exact ⟨rfl, rfl⟩

theorem txt_inv (ys : List Int) (hr : ∀ x ∈ ys, 0 ≤ x ∧ x ≤ 255) (h : txtS 2 ys false = false) : ys = nums ((txtB 2 ys).size : Int) 2 2 ++ (bys (txtB 2 ys) ++ txtR 2 ys) := by
  match ys, hr, h with
  | [], _, h => cases h
  | [x], _, h => cases h
  | x :: y :: rest, hr, h =>
    have hx := hr x (by simp)
    have hy := hr y (by simp)
    have hrr : ∀ z ∈ rest, 0 ≤ z ∧ z ≤ 255 := fun z hz => hr z (by simp [hz])
    obtain ⟨a1, a2, a3⟩ := tk_yes (n := 2) (xs := x :: y :: rest) (by simp)
    have a1' : tkB 2 (x :: y :: rest) = [x, y] := by rw [a1]; rfl
    have a2' : tkR 2 (x :: y :: rest) = rest := by rw [a2]; rfl
    have en : txtN 2 (x :: y :: rest) = (x * 256 + y).toNat := by unfold txtN; rw [a1']; simp [beN]
    unfold txtS at h
    rw [en, a2', a3] at h
    unfold tkS at h
    simp only [Bool.false_or, decide_eq_false_iff_not] at h
    obtain ⟨b1, b2, b3⟩ := tk_yes (n := (x * 256 + y).toNat) (xs := rest) (by omega)
    unfold txtB txtR
    rw [en, a2', b1, b2, strOfNums_size, List.length_take, Nat.min_eq_left (by omega), nums2 _ (by omega), bys_str _ (fun z hz => hrr z (List.mem_of_mem_take hz)), List.take_append_drop]
    show x :: y :: rest = _ :: _ :: rest
    congr 1
    · omega
    · congr 1; omega
theorem inv_all (ys : List Int) (hr : ∀ x ∈ ys, 0 ≤ x ∧ x ≤ 255) : ∀ k, lS ys false k = false → ys = enc (lT ys k) ++ lR ys k
  | 0, _ => by simp [lT, lR, enc]
  | k + 1, h => by
    have hk : lS ys false k = false := by
      cases e : lS ys false k with
      | false => rfl
      | true => unfold lS at h; rw [e, txt_true] at h; cases h
    unfold lS at h
    rw [hk] at h
    have h1 := inv_all ys hr k hk
    have h2 := txt_inv (lR ys k) (lR_range hr k) h
    show ys = enc (lT ys k ++ [txtB 2 (lR ys k)]) ++ txtR 2 (lR ys k)
    rw [enc_snoc, List.append_assoc, List.append_assoc, ← h2]
    exact h1
theorem lenTo_mono (ts : List ByteArray) {a b : Nat} (h : a ≤ b) : lenTo ts a ≤ lenTo ts b := by
  induction b with
  | zero => obtain rfl : a = 0 := by omega
            exact Nat.le_refl _
  | succ b ih =>
    by_cases e : a = b + 1
    · subst e; exact Nat.le_refl _
    · have := ih (by omega)
      have : lenTo ts (b + 1) = lenTo ts b + (2 + (tnth ts b).size) := rfl
      omega
theorem all_good (ts : List ByteArray) (hl : ts.length ≤ 100) (hs : ∀ t ∈ ts, t.size ≤ 20000) (hz : lenTo ts ts.length ≤ 65536) : lbCode ts = 0 ∧ lbOut ts = listTo ts ts.length := by
  refine lb_good ts hl (fun j hj => ?_)
  have hm : tnth ts j ∈ ts := by unfold tnth; rw [List.getD_eq_getElem?_getD, List.getElem?_eq_getElem hj]; exact List.getElem_mem _
  have h1 := hs _ hm
  have h2 := lenTo_mono ts (show j + 1 ≤ ts.length by omega)
  unfold bad
  simp
  omega
theorem small_len (ts : List ByteArray) (hs : ∀ t ∈ ts, t.size ≤ 4) : ∀ k, k ≤ ts.length → lenTo ts k ≤ 1 + 6 * k
  | 0, _ => Nat.le_refl _
  | k + 1, h => by
    have hm : tnth ts k ∈ ts := by unfold tnth; rw [List.getD_eq_getElem?_getD, List.getElem?_eq_getElem (by omega)]; exact List.getElem_mem _
    have := hs _ hm
    have := small_len ts hs k (by omega)
    have : lenTo ts (k + 1) = lenTo ts k + (2 + (tnth ts k).size) := rfl
    omega
/-- Drawn texts are written and read back. -/
theorem drawn_back (ts : List ByteArray) (hl : ts.length ≤ 5) (hs : ∀ t ∈ ts, t.size ≤ 4) : lbCode ts = 0 ∧ rdC (lbOut ts) = 0 ∧ rdL (lbOut ts) = ts ∧ (lbOut ts).length ≤ 31 := by
  have h1 := small_len ts hs ts.length (Nat.le_refl _)
  have h2 : ∀ t ∈ ts, t.size ≤ 20000 := fun t ht => by have := hs t ht; omega
  obtain ⟨e1, e2⟩ := all_good ts (by omega) h2 (by omega)
  have h3 : (listTo ts ts.length).length ≤ 31 := by rw [listTo_length]; omega
  obtain ⟨e3, e4⟩ := read_back ts (by omega) h2 (by omega)
  rw [e2]
  exact ⟨e1, e3, e4, h3⟩
/-- What was read is written again. -/
theorem write_back (xs : List Int) (hr : ∀ x ∈ xs, 0 ≤ x ∧ x ≤ 255) (h : rdC xs = 0) : lbCode (rdL xs) = 0 ∧ lbOut (rdL xs) = xs := by
  have h65 : ¬ 65536 < xs.length := fun hb => by unfold rdC at h; rw [decide_eq_true hb] at h; cases h
  have ok : rdOk xs = true := by
    cases e : rdOk xs with
    | true => rfl
    | false => unfold rdC at h; rw [decide_eq_false h65, e] at h; cases h
  have hL : rdL xs = lT (tkR 1 xs) (tlN xs) := by unfold rdL rlO; rw [ok, decide_eq_false h65]; rfl
  unfold rdOk at ok
  simp only [Bool.and_eq_true, Bool.not_eq_true'] at ok
  obtain ⟨hS, hE, hO⟩ := ok
  have hE' : lR (tkR 1 xs) (tlN xs) = [] := List.isEmpty_iff.1 hE
  match xs, hr with
  | [], _ => cases hS
  | x :: ys, hr =>
    have hx := hr x (by simp)
    have a2 : tkR 1 (x :: ys) = ys := by unfold tkR; simp
    have a3 : tkS 1 (x :: ys) false = false := by unfold tkS; simp
    have an : tlN (x :: ys) = x.toNat := by simp [tlN, tkB, beN]
    rw [a2, a3, an] at hS
    rw [a2, an] at hE' hO hL
    have hi := inv_all ys (fun z hz => hr z (by simp [hz])) x.toNat hS
    rw [hE', List.append_nil] at hi
    have hlen := lT_length ys x.toNat
    rw [hL]
    generalize lT ys x.toNat = ts at hO hi hlen
    unfold okT at hO
    simp only [Bool.and_eq_true, decide_eq_true_eq] at hO
    have hl : ts.length ≤ 100 := hO.2
    have hs : ∀ t ∈ ts, t.size ≤ 20000 := fun t ht => by simpa using List.all_eq_true.1 hO.1 t ht
    have hx2 : listTo ts ts.length = x :: ys := by
      rw [listTo_enc ts _ (Nat.le_refl _), nums1 _ (by omega), List.take_length, ← hi, hlen]
      show ((x.toNat : Nat) : Int) :: ys = x :: ys
      congr 1
      omega
    obtain ⟨e1, e2⟩ := all_good ts hl hs (by rw [← listTo_length, hx2]; omega)
    exact ⟨e1, by rw [e2, hx2]⟩
end Go.Proofs.Ytmafigajapkmnaa.Rl
