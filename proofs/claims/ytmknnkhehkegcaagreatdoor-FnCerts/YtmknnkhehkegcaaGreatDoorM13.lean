/- Texts put together: Rt, Gm, MsgPut, Lb2, Cb. -/
import Derived.Test.YtmknnkhehkegcaaGreatDoorM12
import Derived.Test.YtmknnkhehkegcaaGreatDoorM2
import Derived.Test.YtmknnkhehkegcaaGreatDoorM6
import Derived.Test.YtmknnkhehkegcaaGreatDoorM10
import Derived.Test.YtmknnkhehkegcaaGreatDoorM11
import Derived.Maps.AppendAt
/- A list is read back from its bytes: of no program. -/
namespace Go.Proofs.YtmknnkhehkegcaaGreatDoor.Rl
open Go.RowKit Go.Proofs.YtmknnkhehkegcaaGreatDoor.Sl Go.Proofs.YtmknnkhehkegcaaGreatDoor.By Go.Proofs.YtmknnkhehkegcaaGreatDoor.Ap Go.Proofs.YtmknnkhehkegcaaGreatDoor.Rq Go.Proofs.YtmknnkhehkegcaaGreatDoor.Rr Go.Proofs.YtmknnkhehkegcaaGreatDoor.Ty Go.Proofs.YtmknnkhehkegcaaGreatDoor.Tl Go.Proofs.YtmknnkhehkegcaaGreatDoor.Of Go.Proofs.YtmknnkhehkegcaaGreatDoor.Pu Go.Proofs.YtmknnkhehkegcaaGreatDoor.Lb

/-- The bytes of texts, one behind the other. -/
def enc : List ByteArray → List Int
  | [] => []
  | t :: ts => nums (t.size : Int) 2 2 ++ (bys t ++ enc ts)
theorem enc_snoc (ts : List ByteArray) (t : ByteArray) : enc (ts ++ [t]) = enc ts ++ (nums (t.size : Int) 2 2 ++ bys t) := by
  induction ts with
  | nil => simp [enc]
  | cons x xs ih => simp [enc, ih, List.append_assoc]
theorem take_snoc (ts : List ByteArray) (k : Nat) (h : k < ts.length) : ts.take (k + 1) = ts.take k ++ [tnth ts k] := by
  rw [List.take_add_one, List.getElem?_eq_getElem h]; simp [tnth, List.getElem?_eq_getElem h]
theorem listTo_enc (ts : List ByteArray) : ∀ k, k ≤ ts.length → listTo ts k = nums (ts.length : Int) 1 1 ++ enc (ts.take k)
  | 0, _ => by simp [listTo, enc]
  | k + 1, h => by
    unfold listTo
    rw [listTo_enc ts k (by omega), take_snoc ts k (by omega), enc_snoc, List.append_assoc]
theorem nums2 (n : Nat) (h : n ≤ 65535) : nums (n : Int) 2 2 = [((n / 256 : Nat) : Int), ((n % 256 : Nat) : Int)] := by
  have e : nums (n : Int) 2 2 = [nb (n : Int) 1, nb (n : Int) 0] := rfl
  rw [e]
  unfold nb
  congr 1
  · show (n : Int) / 256 % 256 = _; omega
  · congr 1
    show (n : Int) / 1 % 256 = _; omega
theorem nums1 (n : Nat) (h : n ≤ 255) : nums (n : Int) 1 1 = [(n : Int)] := by
  have e : nums (n : Int) 1 1 = [nb (n : Int) 0] := rfl
  rw [e]
  unfold nb
  congr 1
  show (n : Int) / 1 % 256 = _; omega
theorem txt_enc (t : ByteArray) (rest : List Int) (h : t.size ≤ 65535) : txtB 2 (nums (t.size : Int) 2 2 ++ (bys t ++ rest)) = t ∧ txtR 2 (nums (t.size : Int) 2 2 ++ (bys t ++ rest)) = rest ∧ txtS 2 (nums (t.size : Int) 2 2 ++ (bys t ++ rest)) false = false := by
  rw [nums2 _ h]
  obtain ⟨a1, a2, a3⟩ := tk_yes (n := 2) (xs := [((t.size / 256 : Nat) : Int), ((t.size % 256 : Nat) : Int)] ++ (bys t ++ rest)) (by simp)
  have en : txtN 2 ([((t.size / 256 : Nat) : Int), ((t.size % 256 : Nat) : Int)] ++ (bys t ++ rest)) = t.size := by
    unfold txtN
    rw [a1]
    simp [beN]
    omega
  obtain ⟨b1, b2, b3⟩ := tk_yes (n := t.size) (xs := bys t ++ rest) (by rw [List.length_append, bys_length]; omega)
  have a2' : tkR 2 ([((t.size / 256 : Nat) : Int), ((t.size % 256 : Nat) : Int)] ++ (bys t ++ rest)) = bys t ++ rest := by rw [a2]; rfl
  unfold txtB txtR txtS
  rw [en, a2', a3, b1, b2, b3, List.take_append_of_le_length (by rw [bys_length]; omega), List.take_of_length_le (by rw [bys_length]; omega), str_bys, List.drop_append_of_le_length (by rw [bys_length]; omega), List.drop_eq_nil_of_le (by rw [bys_length]; omega)]
  exact ⟨rfl, rfl, rfl⟩
theorem l_enc (ts : List ByteArray) (hs : ∀ t ∈ ts, t.size ≤ 65535) : ∀ k, k ≤ ts.length → lR (enc ts) k = enc (ts.drop k) ∧ lT (enc ts) k = ts.take k ∧ lS (enc ts) false k = false
  | 0, _ => ⟨by simp [lR], by simp [lT], rfl⟩
  | k + 1, h => by
    obtain ⟨h1, h2, h3⟩ := l_enc ts hs k (by omega)
    have hd : ts.drop k = tnth ts k :: ts.drop (k + 1) := by
      rw [List.drop_eq_getElem_cons (by omega)]
      simp [tnth, List.getElem?_eq_getElem (show k < ts.length by omega)]
    have hm : tnth ts k ∈ ts := by unfold tnth; rw [List.getD_eq_getElem?_getD, List.getElem?_eq_getElem (by omega)]; exact List.getElem_mem _
    obtain ⟨e1, e2, e3⟩ := txt_enc (tnth ts k) (enc (ts.drop (k + 1))) (hs _ hm)
    have he : enc (ts.drop k) = nums ((tnth ts k).size : Int) 2 2 ++ (bys (tnth ts k) ++ enc (ts.drop (k + 1))) := by rw [hd]; rfl
    unfold lR lT lS
    rw [h1, h2, h3, he, e1, e2, e3, take_snoc ts k (by omega)]
    exact ⟨rfl, rfl, rfl⟩
/-- What was written is read back. -/
theorem read_back (ts : List ByteArray) (hl : ts.length ≤ 100) (hs : ∀ t ∈ ts, t.size ≤ 20000) (hz : (listTo ts ts.length).length ≤ 65536) : rdC (listTo ts ts.length) = 0 ∧ rdL (listTo ts ts.length) = ts := by
  have hx : listTo ts ts.length = (ts.length : Int) :: enc ts := by rw [listTo_enc ts _ (Nat.le_refl _), nums1 _ (by omega), List.take_length]; rfl
  obtain ⟨h1, h2, h3⟩ := l_enc ts (fun t ht => by have := hs t ht; omega) ts.length (Nat.le_refl _)
  rw [List.drop_length] at h1
  rw [List.take_length] at h2
  have a2 : tkR 1 (listTo ts ts.length) = enc ts := by rw [hx]; rfl
  have a3 : tkS 1 (listTo ts ts.length) false = false := by rw [hx]; rfl
  have an : tlN (listTo ts ts.length) = ts.length := by rw [hx]; simp [tlN, tkB, beN]
  have ok : rdOk (listTo ts ts.length) = true := by
    unfold rdOk
    rw [a2, a3, an, h1, h2, h3]
    have : okT ts = true := by
      unfold okT
      rw [List.all_eq_true.2 (fun t ht => by simpa using hs t ht), decide_eq_true hl]
      rfl
    rw [this]
    rfl
  unfold rdC rdL rlO
  rw [ok, decide_eq_false (by omega), a2, an, h2]
  exact ⟨rfl, rfl⟩

theorem txt_inv (ys : List Int) (hr : ∀ x ∈ ys, 0 ≤ x ∧ x ≤ 255) (h : txtS 2 ys false = false) : ys = nums ((txtB 2 ys).size : Int) 2 2 ++ (bys (txtB 2 ys) ++ txtR 2 ys) := by
  match ys, hr, h with
  | [], _, h => cases h
  | [x], _, h => cases h
  | x :: y :: rest, hr, h =>
    have hx := hr x (by simp)
    have hy := hr y (by simp)
    have hrr : ∀ z ∈ rest, 0 ≤ z ∧ z ≤ 255 := fun z hz => hr z (by simp [hz])
    obtain ⟨a1, a2, a3⟩ := tk_yes (n := 2) (xs := x :: y :: rest) (by simp)
    have a1' : tkB 2 (x :: y :: rest) = [x, y] := by rw [a1]; rfl
    have a2' : tkR 2 (x :: y :: rest) = rest := by rw [a2]; rfl
    have en : txtN 2 (x :: y :: rest) = (x * 256 + y).toNat := by unfold txtN; rw [a1']; simp [beN]
    unfold txtS at h
    rw [en, a2', a3] at h
    unfold tkS at h
    simp only [Bool.false_or, decide_eq_false_iff_not] at h
    obtain ⟨b1, b2, b3⟩ := tk_yes (n := (x * 256 + y).toNat) (xs := rest) (by omega)
    unfold txtB txtR
    rw [en, a2', b1, b2, strOfNums_size, List.length_take, Nat.min_eq_left (by omega), nums2 _ (by omega), bys_str _ (fun z hz => hrr z (List.mem_of_mem_take hz)), List.take_append_drop]
    show x :: y :: rest = _ :: _ :: rest
    congr 1
    · omega
    · congr 1; omega
theorem inv_all (ys : List Int) (hr : ∀ x ∈ ys, 0 ≤ x ∧ x ≤ 255) : ∀ k, lS ys false k = false → ys = enc (lT ys k) ++ lR ys k
  | 0, _ => by simp [lT, lR, enc]
  | k + 1, h => by
    have hk : lS ys false k = false := by
      cases e : lS ys false k with
      | false => rfl
      | true => unfold lS at h; rw [e, txt_true] at h; cases h
    unfold lS at h
    rw [hk] at h
    have h1 := inv_all ys hr k hk
    have h2 := txt_inv (lR ys k) (lR_range hr k) h
    show ys = enc (lT ys k ++ [txtB 2 (lR ys k)]) ++ txtR 2 (lR ys k)
    rw [enc_snoc, List.append_assoc, List.append_assoc, ← h2]
    exact h1
theorem lenTo_mono (ts : List ByteArray) {a b : Nat} (h : a ≤ b) : lenTo ts a ≤ lenTo ts b := by
  induction b with
  | zero => obtain rfl : a = 0 := by omega
            exact Nat.le_refl _
  | succ b ih =>
    by_cases e : a = b + 1
    · subst e; exact Nat.le_refl _
    · have := ih (by omega)
      have : lenTo ts (b + 1) = lenTo ts b + (2 + (tnth ts b).size) := rfl
      omega
theorem all_good (ts : List ByteArray) (hl : ts.length ≤ 100) (hs : ∀ t ∈ ts, t.size ≤ 20000) (hz : lenTo ts ts.length ≤ 65536) : lbCode ts = 0 ∧ lbOut ts = listTo ts ts.length := by
  refine lb_good ts hl (fun j hj => ?_)
  have hm : tnth ts j ∈ ts := by unfold tnth; rw [List.getD_eq_getElem?_getD, List.getElem?_eq_getElem hj]; exact List.getElem_mem _
  have h1 := hs _ hm
  have h2 := lenTo_mono ts (show j + 1 ≤ ts.length by omega)
  unfold bad
  simp
  omega
theorem small_len (ts : List ByteArray) (hs : ∀ t ∈ ts, t.size ≤ 4) : ∀ k, k ≤ ts.length → lenTo ts k ≤ 1 + 6 * k
  | 0, _ => Nat.le_refl _
  | k + 1, h => by
    have hm : tnth ts k ∈ ts := by unfold tnth; rw [List.getD_eq_getElem?_getD, List.getElem?_eq_getElem (by omega)]; exact List.getElem_mem _
    have := hs _ hm
    have := small_len ts hs k (by omega)
    have : lenTo ts (k + 1) = lenTo ts k + (2 + (tnth ts k).size) := rfl
    omega
/-- Drawn texts are written and read back. -/
theorem drawn_back (ts : List ByteArray) (hl : ts.length ≤ 5) (hs : ∀ t ∈ ts, t.size ≤ 4) : lbCode ts = 0 ∧ rdC (lbOut ts) = 0 ∧ rdL (lbOut ts) = ts ∧ (lbOut ts).length ≤ 31 := by
  have h1 := small_len ts hs ts.length (Nat.le_refl _)
  have h2 : ∀ t ∈ ts, t.size ≤ 20000 := fun t ht => by have := hs t ht; omega
  obtain ⟨e1, e2⟩ := all_good ts (by omega) h2 (by omega)
  have h3 : (listTo ts ts.length).length ≤ 31 := by rw [listTo_length]; omega
  obtain ⟨e3, e4⟩ := read_back ts (by omega) h2 (by omega)
  rw [e2]
  exact ⟨e1, e3, e4, h3⟩
/-- What was read is written again. -/
theorem write_back (xs : List Int) (hr : ∀ x ∈ xs, 0 ≤ x ∧ x ≤ 255) (h : rdC xs = 0) : lbCode (rdL xs) = 0 ∧ lbOut (rdL xs) = xs := by
  have h65 : ¬ 65536 < xs.length := fun hb => by unfold rdC at h; rw [decide_eq_true hb] at h; cases h
  have ok : rdOk xs = true := by
    cases e : rdOk xs with
    | true => rfl
    | false => unfold rdC at h; rw [decide_eq_false h65, e] at h; cases h
  have hL : rdL xs = lT (tkR 1 xs) (tlN xs) := by unfold rdL rlO; rw [ok, decide_eq_false h65]; rfl
  unfold rdOk at ok
  simp only [Bool.and_eq_true, Bool.not_eq_true'] at ok
  obtain ⟨hS, hE, hO⟩ := ok
  have hE' : lR (tkR 1 xs) (tlN xs) = [] := List.isEmpty_iff.1 hE
  match xs, hr with
  | [], _ => cases hS
  | x :: ys, hr =>
    have hx := hr x (by simp)
    have a2 : tkR 1 (x :: ys) = ys := by unfold tkR; simp
    have a3 : tkS 1 (x :: ys) false = false := by unfold tkS; simp
    have an : tlN (x :: ys) = x.toNat := by simp [tlN, tkB, beN]
    rw [a2, a3, an] at hS
    rw [a2, an] at hE' hO hL
    have hi := inv_all ys (fun z hz => hr z (by simp [hz])) x.toNat hS
    rw [hE', List.append_nil] at hi
    have hlen := lT_length ys x.toNat
    rw [hL]
    generalize lT ys x.toNat = ts at hO hi hlen
    unfold okT at hO
    simp only [Bool.and_eq_true, decide_eq_true_eq] at hO
    have hl : ts.length ≤ 100 := hO.2
    have hs : ∀ t ∈ ts, t.size ≤ 20000 := fun t ht => by simpa using List.all_eq_true.1 hO.1 t ht
    have hx2 : listTo ts ts.length = x :: ys := by
      rw [listTo_enc ts _ (Nat.le_refl _), nums1 _ (by omega), List.take_length, ← hi, hlen]
      show ((x.toNat : Nat) : Int) :: ys = x :: ys
      congr 1
      omega
    obtain ⟨e1, e2⟩ := all_good ts hl hs (by rw [← listTo_length, hx2]; omega)
    exact ⟨e1, by rw [e2, hx2]⟩
end Go.Proofs.YtmknnkhehkegcaaGreatDoor.Rl

/- Messages in a slice: read, measured, copied, compared. -/
namespace Go.Proofs.YtmknnkhehkegcaaGreatDoor.Gm
open Go.RowKit Go.Proofs.YtmknnkhehkegcaaGreatDoor.Sl Go.Proofs.YtmknnkhehkegcaaGreatDoor.Ap Go.Proofs.YtmknnkhehkegcaaGreatDoor.Rg

structure Mg where
  kd : Int
  vw : Int
  sq : Int
  fr : Int
  dg : ByteArray
  bd : ByteArray
  mc : ByteArray
instance : Inhabited Mg := ⟨⟨0, 0, 0, 0, ⟨#[]⟩, ⟨#[]⟩, ⟨#[]⟩⟩⟩
def E1 (w : World) (b o : Nat) (x : Mg) : Prop := w.cell? ⟨b, o, none⟩ = some (.int .i64 x.kd) ∧ w.cell? ⟨b, o + 1, none⟩ = some (.int .i64 x.vw) ∧ w.cell? ⟨b, o + 2, none⟩ = some (.int .i64 x.sq) ∧ w.cell? ⟨b, o + 3, none⟩ = some (.int .i64 x.fr) ∧ w.cell? ⟨b, o + 4, none⟩ = some (.string x.dg) ∧ w.cell? ⟨b, o + 5, none⟩ = some (.string x.bd) ∧ w.cell? ⟨b, o + 6, none⟩ = some (.string x.mc)
/-- The slice v holds the things xs. -/
def Row (w : World) (v : Value) (xs : List Mg) : Prop := RowG 7 E1 w v xs
def oneV (x : Mg) : Value := .agg #[.int .i64 x.kd, .int .i64 x.vw, .int .i64 x.sq, .int .i64 x.fr, .string x.dg, .string x.bd, .string x.mc]
theorem stays1 : Stays E1 := fun _ _ b _ _ hb hlt ⟨h0, h1, h2, h3, h4, h5, h6⟩ => ⟨(hb.cell (p := ⟨b, _, none⟩) hlt).trans h0, (hb.cell (p := ⟨b, _, none⟩) hlt).trans h1, (hb.cell (p := ⟨b, _, none⟩) hlt).trans h2, (hb.cell (p := ⟨b, _, none⟩) hlt).trans h3, (hb.cell (p := ⟨b, _, none⟩) hlt).trans h4, (hb.cell (p := ⟨b, _, none⟩) hlt).trans h5, (hb.cell (p := ⟨b, _, none⟩) hlt).trans h6⟩
theorem Row.below {w w' : World} {v : Value} {xs : List Mg} (h : Row w v xs) (hb : Below w.heap.size w w') : Row w' v xs := RowG.below stays1 h hb
/-- Its texts are no longer than n. -/
def Tz (n : Nat) (x : Mg) : Prop := x.dg.size ≤ n ∧ x.bd.size ≤ n ∧ x.mc.size ≤ n
end Go.Proofs.YtmknnkhehkegcaaGreatDoor.Gm
namespace Go.Proofs.YtmknnkhehkegcaaGreatDoor.Op
open Go.ChangeShapes Go.WideShapes Go.ChangeAt Go.RowKit Go.Deep Go.Proofs.YtmknnkhehkegcaaGreatDoor.Rg Go.Proofs.YtmknnkhehkegcaaGreatDoor.Gm
end Go.Proofs.YtmknnkhehkegcaaGreatDoor.Op

/- Messages' bytes: both MessageBytes functions. -/
namespace Go.Proofs.YtmknnkhehkegcaaGreatDoor.Mp
open Go.RowKit Go.Proofs.YtmknnkhehkegcaaGreatDoor.Sl Go.Proofs.YtmknnkhehkegcaaGreatDoor.By Go.Proofs.YtmknnkhehkegcaaGreatDoor.Rq Go.Proofs.YtmknnkhehkegcaaGreatDoor.Ap Go.Proofs.YtmknnkhehkegcaaGreatDoor.Pu Go.Proofs.YtmknnkhehkegcaaGreatDoor.Ms Go.Proofs.YtmknnkhehkegcaaGreatDoor.Rp

theorem empty_size (s : ByteArray) : s.toList.isEmpty = decide (s.size = 0) := by
  rw [ByteArray.toList_eq]
  obtain ⟨⟨l⟩⟩ := s
  cases l <;> simp [ByteArray.size]
/-- The first five bytes of a message. -/
def headBs (kd vw sq fr : Int) (dg : ByteArray) : List Int := nums kd 1 1 ++ (nums vw 1 1 ++ (nums sq 1 1 ++ (nums fr 1 1 ++ nums (dg.size : Int) 1 1)))
def plainBs (kd vw sq fr : Int) (dg bd : ByteArray) : List Int := headBs kd vw sq fr dg ++ bys dg ++ nums (bd.size : Int) 2 2 ++ bys bd
/-- A message's bytes. -/
def msgBs (kd vw sq fr : Int) (dg bd mc : ByteArray) : List Int := plainBs kd vw sq fr dg bd ++ bys mc
theorem headBs_length (kd vw sq fr : Int) (dg : ByteArray) : (headBs kd vw sq fr dg).length = 5 := by unfold headBs; simp only [List.length_append, nums_length]
theorem plainBs_length (kd vw sq fr : Int) (dg bd : ByteArray) : (plainBs kd vw sq fr dg bd).length = 7 + dg.size + bd.size := by unfold plainBs; simp only [List.length_append, headBs_length, nums_length, bys_length]; omega
theorem msgBs_length (kd vw sq fr : Int) (dg bd mc : ByteArray) : (msgBs kd vw sq fr dg bd mc).length = 7 + dg.size + bd.size + mc.size := by unfold msgBs; rw [List.length_append, plainBs_length, bys_length]
theorem msgBs_range (kd vw sq fr : Int) (dg bd mc : ByteArray) : ∀ z ∈ msgBs kd vw sq fr dg bd mc, 0 ≤ z ∧ z ≤ 255 := by
  intro z hz
  unfold msgBs plainBs headBs at hz
  simp only [List.mem_append, or_assoc] at hz
  rcases hz with h | h | h | h | h | h | h | h | h
  all_goals first | exact nums_range _ _ _ z h | exact bys_range _ z h
theorem msg_small {kd vw sq fr : Int} {dg bd mc : ByteArray} (h : msgB kd vw sq fr dg bd mc = true) : dg.size ≤ 32 ∧ bd.size ≤ 20000 ∧ mc.size = 8 := by
  rw [msg_eq] at h
  simp only [Bool.and_eq_true, beq_iff_eq, decide_eq_true_eq] at h
  obtain ⟨_, _, h3, h4, h5⟩ := h
  refine ⟨?_, by omega, by omega⟩
  rcases kinds kd with rfl | rfl | rfl | rfl | rfl | hk
  · rw [kind1] at h5; unfold placeB at h5; simp at h5; omega
  · rw [kind2] at h5; unfold placeB at h5; simp at h5; omega
  · rw [kind3] at h5; unfold placeB at h5; simp at h5; omega
  · rw [kind4, empty_size] at h5; simp only [Bool.and_eq_true, decide_eq_true_eq] at h5; omega
  · rw [kind5, empty_size] at h5; simp only [Bool.and_eq_true, decide_eq_true_eq] at h5; omega
  · rw [kind_no _ _ _ _ hk] at h5; cases h5
def msgOut (kd vw sq fr : Int) (dg bd mc : ByteArray) : List Int := if msgB kd vw sq fr dg bd mc then msgBs kd vw sq fr dg bd mc else []
def msgCode (kd vw sq fr : Int) (dg bd mc : ByteArray) : Int := if msgB kd vw sq fr dg bd mc then 0 else 1

set_option maxHeartbeats 1600000 in
theorem implMessageBytes_any (kd vw sq fr : Int) (dg bd mc : ByteArray) (w : World) :
    Calls Tryz.prog 16 #[msgV kd vw sq fr dg bd mc] w fun e w' => ∃ v, e = .returned (.tuple #[v, .int .i64 (msgCode kd vw sq fr dg bd mc)]) ∧ OwnB 5 w' w.heap.size v (msgOut kd vw sq fr dg bd mc) ∧ Below w.heap.size w w' := by
  obtain ⟨i0, hi, hz0, hz1, hz2⟩ := info_parts Sl.info5
  cases hq : msgB kd vw sq fr dg bd mc
  · have HC : Hid (msgCode kd vw sq fr dg bd mc = 1) := by show _ = _; unfold msgCode; rw [hq]; rfl
    have HO : Hid (msgOut kd vw sq fr dg bd mc = []) := by show _ = _; unfold msgOut; rw [hq]; rfl
    go_enter Tryz.func16, Tryz.ntmps16
    unfold msgV
    go_wp2_with (go_at_call 33; refine (implMessageOK_any kd vw sq fr dg bd mc _).mono ?_; rintro e w1 ⟨rfl, b1⟩; rw [hq]; have g1 := box_first b1; clear b1)
    go_ret2
    exact ⟨_, ret_tup HC.out.symm, by rw [HO.out]; exact own_nil _ _ _, box_old g1⟩
  have HC : Hid (msgCode kd vw sq fr dg bd mc = 0) := by show _ = _; unfold msgCode; rw [hq]; rfl
  have HO : Hid (msgOut kd vw sq fr dg bd mc = msgBs kd vw sq fr dg bd mc) := by show _ = _; unfold msgOut; rw [hq]; rfl
  obtain ⟨hd, hb, hm⟩ := msg_small hq
  have HM : Hid (mc.size = 8) := hm
  clear hm
  go_enter Tryz.func16, Tryz.ntmps16
  unfold msgV
  go_wp2_with fail
  refine (implMessageOK_any kd vw sq fr dg bd mc _).mono ?_
  rintro e w1 ⟨rfl, b1⟩
  rw [hq]
  have g1 := box_first b1
  obtain ⟨q0, q1, q2, q3, q4, q5, q6⟩ := msg_box g1
  clear b1
  go_wp2_with fail
  refine (putNumber_any (.slice none 0 0) [] kd 1 w1.heap.size _ (own_nil _ _ _) (Nat.le_refl _) (by decide) (by simp)).mono ?_
  rintro e w2 ⟨v2, rfl, o2, k2⟩
  obtain ⟨q0', q1', q2', q3', q4', q5', q6'⟩ := msg_box (box_next g1 k2.nil)
  have O2 : Hid (_) := o2
  clear q0 q1 q2 q3 q4 q5 q6 o2
  go_wp2_with fail
  refine (putNumber_any v2 _ vw 1 w1.heap.size _ O2.out k2.size (by decide) (by simp only [List.length_append, nums_length]; decide)).mono ?_
  rintro e w3 ⟨v3, rfl, o3, k3'⟩
  have k3 := k2.trans k3'
  obtain ⟨q0, q1, q2, q3, q4, q5, q6⟩ := msg_box (box_next g1 k3.nil)
  have O3 : Hid (_) := o3
  clear q0' q1' q2' q3' q4' q5' q6' o3 O2 k2 k3'
  go_wp2_with fail
  refine (putNumber_any v3 _ sq 1 w1.heap.size _ O3.out k3.size (by decide) (by simp only [List.length_append, nums_length]; decide)).mono ?_
  rintro e w4 ⟨v4, rfl, o4, k4'⟩
  have k4 := k3.trans k4'
  obtain ⟨q0', q1', q2', q3', q4', q5', q6'⟩ := msg_box (box_next g1 k4.nil)
  have O4 : Hid (_) := o4
  clear q0 q1 q2 q3 q4 q5 q6 o4 O3 k3 k4'
  go_wp2_with fail
  refine (putNumber_any v4 _ fr 1 w1.heap.size _ O4.out k4.size (by decide) (by simp only [List.length_append, nums_length]; decide)).mono ?_
  rintro e w5 ⟨v5, rfl, o5, k5'⟩
  have k5 := k4.trans k5'
  obtain ⟨q0, q1, q2, q3, q4, q5, q6⟩ := msg_box (box_next g1 k5.nil)
  have O5 : Hid (_) := o5
  clear q0' q1' q2' q3' q4' q5' q6' o5 O4 k4 k5'
  go_wp2_with fail
  refine (putText_any v5 _ dg 1 w1.heap.size _ O5.out k5.size (by decide) (by simp only [List.length_append, nums_length]; decide) (by omega)).mono ?_
  rintro e w6 ⟨v6, rfl, o6, k6'⟩
  have k6 := k5.trans k6'
  obtain ⟨q0', q1', q2', q3', q4', q5', q6'⟩ := msg_box (box_next g1 k6.nil)
  have O6 : Hid (_) := o6
  clear q0 q1 q2 q3 q4 q5 q6 o6 O5 k5 k6'
  go_wp2_with fail
  refine (putText_any v6 _ bd 2 w1.heap.size _ O6.out k6.size (by decide) (by simp only [List.length_append, nums_length, bys_length, List.length_nil]; omega) (by omega)).mono ?_
  rintro e w7 ⟨v7, rfl, o7, k7'⟩
  have k7 := k6.trans k7'
  obtain ⟨q0, q1, q2, q3, q4, q5, q6⟩ := msg_box (box_next g1 k7.nil)
  have hl : Hid (([] ++ nums kd 1 1 ++ nums vw 1 1 ++ nums sq 1 1 ++ nums fr 1 1 ++ nums (dg.size : Int) 1 1 ++ bys dg ++ nums (bd.size : Int) 2 2 ++ bys bd).length + mc.size ≤ 140737488355328) := by
    show _ ≤ _
    have := HM.out
    simp only [List.length_append, nums_length, bys_length, List.length_nil]
    omega
  have HE : Hid ([] ++ nums kd 1 1 ++ nums vw 1 1 ++ nums sq 1 1 ++ nums fr 1 1 ++ nums (dg.size : Int) 1 1 ++ bys dg ++ nums (bd.size : Int) 2 2 ++ bys bd ++ bys mc = msgBs kd vw sq fr dg bd mc) := by
    show _ = _
    unfold msgBs plainBs headBs
    simp [List.append_assoc]
  clear q0' q1' q2' q3' q4' q5' q6' O6 k6 k7' hd hb
  go_wp2_with (at_builtin; go_must (refine list_str (by rfl) _ _ 22 9 (by rfl) Tryz.underlying22 Tryz.underlying9 hi hz0 hz1 hz2 w1.heap.size _ _ mc _ (by rfl) (by rfl) o7 k7.size hl.out ?_; intro v8 w8 o8 k8))
  go_ret2
  rw [HE.out] at o8
  exact ⟨_, ret_tup HC.out.symm, by rw [HO.out]; exact own_le o8 (box_old g1).size, box_old (box_next g1 (k7.trans k8).nil)⟩

set_option maxRecDepth 100000 in
set_option maxHeartbeats 1600000 in
theorem l02Plain_any (kd vw sq fr : Int) (dg bd mc : ByteArray) (w : World) (hd : dg.size ≤ 1000) (hb : bd.size ≤ 100000) :
    Calls Tryz.prog 62 #[msgV kd vw sq fr dg bd mc] w fun e w' => ∃ v, e = .returned v ∧ OwnB 5 w' (w.heap.size + 1) v (plainBs kd vw sq fr dg bd) ∧ Below (w.heap.size + 1) (w.alloc (.cells #[.int .i64 kd, .int .i64 vw, .int .i64 sq, .int .i64 fr, .string dg, .string bd, .string mc] 39)) w' := by
  obtain ⟨i0, hi, hz0, hz1, hz2⟩ := info_parts Sl.info5
  have hs0 : Hid (w.heap.size + 1 = (w.alloc (.cells #[.int .i64 kd, .int .i64 vw, .int .i64 sq, .int .i64 fr, .string dg, .string bd, .string mc] 39)).heap.size) := (size_new _ _).symm
  have HH : Hid ([kd % 256, vw % 256, sq % 256, fr % 256, (dg.size : Int) % 256] = headBs kd vw sq fr dg) := by show _ = _; simp [headBs, nums, nb]
  go_enter Tryz.func62, Tryz.ntmps62
  unfold msgV
  go_upto_region 1 with fail
  go_cut [3] (fun s3 wx => OwnB 5 wx (w.heap.size + 1) s3 (headBs kd vw sq fr dg) ∧ Below (w.heap.size + 1) (w.alloc (.cells #[.int .i64 kd, .int .i64 vw, .int .i64 sq, .int .i64 fr, .string dg, .string bd, .string mc] 39)) wx)
  case first =>
    go_wp2_with fail
    go_meet
    refine ⟨?_, (Below.refl _ _).alloc (by simp) _⟩
    rw [← HH.out]
    have := own_lit 5 (w.alloc (.cells #[.int .i64 kd, .int .i64 vw, .int .i64 sq, .int .i64 fr, .string dg, .string bd, .string mc] 39)) (w.heap.size + 1) [kd % 256, vw % 256, sq % 256, fr % 256, (dg.size : Int) % 256] 5 rfl (by simp) (by decide)
    rw [← hs0.out] at this
    exact this
  case rest =>
  obtain ⟨o1, g1⟩ := hcut
  have B1 : w.heap.size + 1 ≤ wc.heap.size := Nat.le_trans (Nat.le_of_eq hs0.out) g1.size
  obtain ⟨q0, q1, q2, q3, q4, q5, q6⟩ := msg_box g1
  have HE : Hid (headBs kd vw sq fr dg ++ bys dg ++ nums (bd.size : Int) 2 2 ++ bys bd = plainBs kd vw sq fr dg bd) := rfl
  have HL1 : Hid ((headBs kd vw sq fr dg).length = 5) := headBs_length _ _ _ _ _
  generalize headBs kd vw sq fr dg = zs at o1 HE HL1
  clear q0 q1 q2 q3 q6 HH
  go_upto_region 2 with fail
  go_cut [3] (fun s3 wx => OwnB 5 wx (w.heap.size + 1) s3 (zs ++ bys dg ++ nums (bd.size : Int) 2 2) ∧ Below (w.heap.size + 1) (w.alloc (.cells #[.int .i64 kd, .int .i64 vw, .int .i64 sq, .int .i64 fr, .string dg, .string bd, .string mc] 39)) wx)
  case first =>
    have HW : Hid (∀ g, u3.ownBlock = some g → g < wc.heap.size) := own_lt o1
    go_region_law (first
      | (go_simp; go_at_call 67; refine (l02Number_any (bd.size : Int) 2 _ (by decide)).mono ?_; rintro e w3 ⟨v3, rfl, o3, b3⟩; (first | (with_reducible (have hA := ordC o2 g2 B2 b3); obtain ⟨f24, g3, B3⟩ := hA; have r28 := own_rowB o3 (nums_range _ _ _)) | (with_reducible (have hA := ordB2 o1 g1 B1 b3); obtain ⟨f21, g3, B3⟩ := hA; have o28 : OwnB 5 w3 wc.heap.size v3 _ := o3)); obtain ⟨y0, y1, y2, y3, y4, y5, y6⟩ := msg_box g3; clear o3 b3; try go_simp)
      | (refine step_row (by rfl) _ _ 22 (by rfl) Tryz.underlying22 hi hz0 hz1 hz2 (w.heap.size + 1) _ _ _ _ _ (by rfl) (by rfl) f24 B3 r28 (by simp only [List.length_append, nums_length, HL1.out, bys_length]; omega) ?_; intro v5 w5 o5 k5; have g5 := g3.trans (k5.below f24 B3))
      | (refine step_row (by rfl) _ _ 22 (by rfl) Tryz.underlying22 hi hz0 hz1 hz2 (w.heap.size + 1) _ _ _ _ _ (by rfl) (by rfl) o2 B2 r28 (by simp only [List.length_append, nums_length, HL1.out, bys_length]; omega) ?_; intro v5 w5 o5 k5; have g5 := g2.trans (k5.below o2 B2))
      | (refine step_str (by rfl) _ _ 22 9 (by rfl) Tryz.underlying22 Tryz.underlying9 hi hz0 hz1 hz2 (w.heap.size + 1) _ _ dg _ (by rfl) (by rfl) f21 B3 (by simp only [HL1.out]; omega) ?_; intro v2 w2 o2 k2; have g2 := g3.trans (k2.below f21 B3); have B2 : w.heap.size + 1 ≤ w2.heap.size := Nat.le_trans B3 k2.size; have r28 := own_rowB (own_kp o28 k2 HW.out) (nums_range _ _ _); obtain ⟨x0, x1, x2, x3, x4, x5, x6⟩ := msg_box g2)
      | (refine step_str (by rfl) _ _ 22 9 (by rfl) Tryz.underlying22 Tryz.underlying9 hi hz0 hz1 hz2 (w.heap.size + 1) _ _ dg _ (by rfl) (by rfl) (own_drew o1) B1 (by simp only [HL1.out]; omega) ?_; intro v2 w2 o2 k2; have g2 := g1.drew.trans (k2.below (own_drew o1) B1); have B2 : w.heap.size + 1 ≤ w2.heap.size := Nat.le_trans B1 k2.size; obtain ⟨x0, x1, x2, x3, x4, x5, x6⟩ := msg_box g2))
    all_goals
      go_wp2_with fail
      go_meet
      exact ⟨o5, g5⟩
  case rest =>
  clear q4 q5 o1 g1 B1
  obtain ⟨o1, g1⟩ := hcut
  have B1 : w.heap.size + 1 ≤ wc.heap.size := Nat.le_trans (Nat.le_of_eq hs0.out) g1.size
  obtain ⟨q0, q1, q2, q3, q4, q5, q6⟩ := msg_box g1
  have hl : Hid ((zs ++ bys dg ++ nums (bd.size : Int) 2 2).length + bd.size ≤ 140737488355328) := by show _ ≤ _; simp only [List.length_append, nums_length, bys_length, HL1.out]; omega
  clear q0 q1 q2 q3 q4 q6 hd hb
  go_wp2_with (at_builtin; go_must (refine list_str (by rfl) _ _ 22 9 (by rfl) Tryz.underlying22 Tryz.underlying9 hi hz0 hz1 hz2 (w.heap.size + 1) _ _ bd _ (by rfl) (by rfl) o1 B1 hl.out ?_; intro v8 w8 o8 k8))
  go_ret
  rw [HE.out] at o8
  exact ⟨_, rfl, o8, g1.trans (k8.below o1 B1)⟩

set_option maxRecDepth 100000 in
set_option maxHeartbeats 1600000 in
theorem l02Message_any (kd vw sq fr : Int) (dg bd mc : ByteArray) (w : World) (hd : dg.size ≤ 1000) (hb : bd.size ≤ 100000) (hm : mc.size ≤ 1000) :
    Calls Tryz.prog 37 #[msgV kd vw sq fr dg bd mc] w fun e w' => ∃ v, e = .returned v ∧ OwnB 5 w' (w.heap.size + 1) v (msgBs kd vw sq fr dg bd mc) ∧ Below (w.heap.size + 1) (w.alloc (.cells #[.int .i64 kd, .int .i64 vw, .int .i64 sq, .int .i64 fr, .string dg, .string bd, .string mc] 39)) w' := by
  obtain ⟨i0, hi, hz0, hz1, hz2⟩ := info_parts Sl.info5
  have hs0 : Hid (w.heap.size + 1 = (w.alloc (.cells #[.int .i64 kd, .int .i64 vw, .int .i64 sq, .int .i64 fr, .string dg, .string bd, .string mc] 39)).heap.size) := (size_new _ _).symm
  have hl : Hid ((plainBs kd vw sq fr dg bd).length + mc.size ≤ 140737488355328) := by show _ ≤ _; rw [plainBs_length]; omega
  go_enter Tryz.func37, Tryz.ntmps37
  unfold msgV
  go_upto_region 1 with fail
  go_region_law (first
    | (go_simp; go_at_call 62; refine (l02Plain_any kd vw sq fr dg bd mc _ hd hb).mono ?_; rintro e w3 ⟨v3, rfl, o3, b3⟩; with_reducible (have hA := ordB hs0.out (box_old b3)); obtain ⟨g3, B3⟩ := hA; have f3 := own_le o3 (Nat.le_trans (Nat.le_of_eq hs0.out) (Nat.le_succ _)); obtain ⟨y0, y1, y2, y3, y4, y5, y6⟩ := msg_box g3; clear o3 b3; try go_simp)
    | (refine step_str (by rfl) _ _ 22 9 (by rfl) Tryz.underlying22 Tryz.underlying9 hi hz0 hz1 hz2 (w.heap.size + 1) _ _ mc _ (by rfl) (by rfl) f3 B3 hl.out ?_; intro v5 w5 o5 k5; have g5 := g3.trans (k5.below f3 B3)))
  all_goals
    go_wp2_with fail
    go_ret
    exact ⟨_, rfl, o5, g5⟩

end Go.Proofs.YtmknnkhehkegcaaGreatDoor.Mp

/- A list's bytes: the specification's ListBytes. -/
namespace Go.Proofs.YtmknnkhehkegcaaGreatDoor.Lb
open Go.RowKit Go.Proofs.YtmknnkhehkegcaaGreatDoor.Sl Go.Proofs.YtmknnkhehkegcaaGreatDoor.By Go.Proofs.YtmknnkhehkegcaaGreatDoor.Rq Go.Proofs.YtmknnkhehkegcaaGreatDoor.Ap Go.Proofs.YtmknnkhehkegcaaGreatDoor.Pu Go.Proofs.YtmknnkhehkegcaaGreatDoor.Ty Go.Proofs.YtmknnkhehkegcaaGreatDoor.Rp Go.Proofs.YtmknnkhehkegcaaGreatDoor.Rr

set_option maxRecDepth 100000 in
set_option maxHeartbeats 1600000 in
theorem l02List_any (v : Value) (ts : List ByteArray) (w : World) (h : RowT w v ts) (hl : ts.length ≤ 100) (hf : ∀ k, k ≤ ts.length → lenTo ts k ≤ 65536) :
    Calls Tryz.prog 38 #[v] w fun e w' => ∃ v', e = .returned v' ∧ OwnB 5 w' w.heap.size v' (listTo ts ts.length) ∧ Below w.heap.size w w' := by
  obtain ⟨i0, hi, hz0, hz1, hz2⟩ := info_parts Sl.info5
  obtain ⟨a, cap, rfl, h⟩ := h
  have HF : Hid (∀ k, k ≤ ts.length → lenTo ts k ≤ 65536) := hf
  have hl' : (ts.length : Int) ≤ 100 := by omega
  clear hf
  go_enter Tryz.func38, Tryz.ntmps38
  go_wp2_with fail
  go_loopw [3, 4] (fun b i wr => ∃ k : Nat, k ≤ ts.length ∧ i = .int .i64 k ∧ OwnB 5 wr w.heap.size b (listTo ts k) ∧ Below w.heap.size w wr) (fun _ i _ => ts.length - (intOf i).toNat)
  case atStart =>
    refine ⟨0, by omega, rfl, ?_, (Below.refl _ _).alloc (Nat.le_refl _) _⟩
    have := own_one 5 w w.heap.size (ts.length : Int) (Nat.le_refl _)
    have e : listTo ts 0 = [(ts.length : Int)] := by simp [listTo, nums, nb]; omega
    rw [e]
    exact this
  case round =>
    obtain ⟨k, hk, rfl, ho, hbel⟩ := hrel
    have hB := hbel.size
    by_cases hlt : k < ts.length
    · rcases h with h | ⟨b, off, rfl, hc, hb, hcell⟩
      · exact absurd hlt (by rw [h]; simp)
      have hp0 : (0 : Int) ≤ (k : Int) := by omega
      have hp1 : (k : Int) < (ts.length : Int) := by omega
      have HC : Hid (∀ W, Below w.heap.size w W → W.cell? ⟨b, off + k, none⟩ = some (.string (tnth ts k))) := fun W hW => (hW.cell (p := ⟨b, off + k, none⟩) hb).trans (hcell k hlt)
      have hc1 := HC.out wr hbel
      have HL0 : Hid ((listTo ts k).length = lenTo ts k) := listTo_length ts k
      have HLT : Hid (listTo ts (k + 1) = listTo ts k ++ (nums ((tnth ts k).size : Int) 2 2 ++ bys (tnth ts k))) := rfl
      have HLL : Hid (lenTo ts k + (2 + (tnth ts k).size) ≤ 65536) := HF.out (k + 1) hlt
      have HW : Hid (∀ g, u3.ownBlock = some g → g < wr.heap.size) := own_lt ho
      clear hcell
      generalize tnth ts k = t at hc1 HC HLT HLL
      go_wp2_with fail
      go_region_law (first
        | (go_simp; go_at_call 67; refine (l02Number_any (t.size : Int) 2 _ (by decide)).mono ?_; rintro e w3 ⟨v3, rfl, o3, b3⟩; with_reducible (have hA := ordB2 ho hbel hB b3); obtain ⟨f15, g3, B3⟩ := hA; have r21 := own_rowB o3 (nums_range _ _ _); have y1 := HC.out w3 g3; clear o3 b3; try go_simp)
        | (refine step_row (by rfl) _ _ 22 (by rfl) Tryz.underlying22 hi hz0 hz1 hz2 w.heap.size _ _ _ _ _ (by rfl) (by rfl) f15 B3 r21 (by rw [HL0.out, nums_length]; have := HLL.out; omega) ?_; intro v2 w2 o2 k2; have g2 := g3.trans (k2.below f15 B3); have B2 : w.heap.size ≤ w2.heap.size := Nat.le_trans B3 k2.size; have x1 := HC.out w2 g2)
        | (refine step_str (by rfl) _ _ 22 9 (by rfl) Tryz.underlying22 Tryz.underlying9 hi hz0 hz1 hz2 w.heap.size _ _ t _ (by rfl) (by rfl) o2 B2 (by rw [List.length_append, HL0.out, nums_length]; have := HLL.out; omega) ?_; intro v5 w5 o5 k5; have g5 := g2.trans (k5.below o2 B2)))
      all_goals
        rw [List.append_assoc, ← HLT.out] at o5
        go_wp2_with fail
        exact ⟨⟨k + 1, by omega, by go_num, o5, g5⟩, by simp [intOf]; omega⟩
    · obtain rfl : k = ts.length := by omega
      go_wp2
      go_ret
      exact ⟨_, rfl, ho, hbel⟩

theorem own_none (w w1 : World) (hb : Below w.heap.size w w1) : OwnB 5 (w1.alloc (.cells #[] 5)) w.heap.size (.slice (some ⟨w1.heap.size, 0, none⟩) 0 0) [] := own_made _ _ _ _ _ hb.size (by simp [maxLen]) rfl
end Go.Proofs.YtmknnkhehkegcaaGreatDoor.Lb

/- Certificates: their form, their bytes: the program. -/
namespace Go.Proofs.YtmknnkhehkegcaaGreatDoor.Cb
open Go.RowKit Go.Proofs.YtmknnkhehkegcaaGreatDoor.Sl Go.Proofs.YtmknnkhehkegcaaGreatDoor.By Go.Proofs.YtmknnkhehkegcaaGreatDoor.Ap Go.Proofs.YtmknnkhehkegcaaGreatDoor.Rq Go.Proofs.YtmknnkhehkegcaaGreatDoor.Ms Go.Proofs.YtmknnkhehkegcaaGreatDoor.Mp Go.Proofs.YtmknnkhehkegcaaGreatDoor.Rp Go.Proofs.YtmknnkhehkegcaaGreatDoor.Lb Go.Proofs.YtmknnkhehkegcaaGreatDoor.Gm
open Go.Proofs.YtmknnkhehkegcaaGreatDoor.Ty (RowT tnth)
open Go.Proofs.YtmknnkhehkegcaaGreatDoor.Tl (OwnS)
open Go.Proofs.YtmknnkhehkegcaaGreatDoor.Rg (RowG RowG.slice RowG.at lt_at mem_at blk_cell bel_new)

def crtV (bd : ByteArray) (vr : Value) : Value := .agg #[.string bd, vr]
/-- A right PbPrepare; a certificate that has its form; its texts. -/
def mB (x : Mg) : Bool := msgB x.kd x.vw x.sq x.fr x.dg x.bd x.mc
def mOK (x : Mg) : Bool := (x.kd == 2) && mB x
def cfB (ms : List Mg) : Bool := decide (ms.length ≤ 7) && ms.all mOK
def mTx (x : Mg) : ByteArray := strOfNums (msgBs x.kd x.vw x.sq x.fr x.dg x.bd x.mc)
def cTs (bd : ByteArray) (ms : List Mg) : List ByteArray := bd :: ms.map mTx
def cOut (bd : ByteArray) (ms : List Mg) : List Int := if cfB ms then lbOut (cTs bd ms) else []
def cCode (bd : ByteArray) (ms : List Mg) : Int := if cfB ms then lbCode (cTs bd ms) else 1
theorem ret_b {a b : Bool} (h : a = b) : Ending.returned (.bool a) = .returned (.bool b) := by rw [h]
theorem all_step {ms : List Mg} {k : Nat} {x : Mg} (h : ms[k]? = some x) : (ms.drop k).all mOK = (mOK x && (ms.drop (k + 1)).all mOK) := by
  obtain ⟨hk, rfl⟩ := List.getElem?_eq_some_iff.1 h
  rw [List.drop_eq_getElem_cons hk, List.all_cons]
theorem all_end {ms : List Mg} : (ms.drop ms.length).all mOK = true := by rw [List.drop_length]; rfl
theorem mTx_size (x : Mg) : (mTx x).size = 7 + x.dg.size + x.bd.size + x.mc.size := by unfold mTx; rw [strOfNums_size, msgBs_length]
theorem ok_size {x : Mg} (h : mOK x = true) : (mTx x).size = 47 ∧ mB x = true := by
  unfold mOK at h
  rw [Bool.and_eq_true, beq_iff_eq] at h
  refine ⟨?_, h.2⟩
  have h2 : msgB x.kd x.vw x.sq x.fr x.dg x.bd x.mc = true := h.2
  obtain ⟨_, _, hm⟩ := msg_small h2
  rw [h.1, msg_eq] at h2
  simp only [Bool.and_eq_true] at h2
  have h5 := h2.2.2.2.2
  rw [kind2, empty_size] at h5
  unfold placeB at h5
  simp only [Bool.and_eq_true, decide_eq_true_eq, beq_iff_eq] at h5
  rw [mTx_size]
  omega
theorem cf_all {ms : List Mg} (h : cfB ms = true) : ms.length ≤ 7 ∧ ∀ x ∈ ms, mOK x = true := by
  unfold cfB at h
  rw [Bool.and_eq_true, decide_eq_true_eq, List.all_eq_true] at h
  exact h
theorem cTs_step {bd : ByteArray} {ms : List Mg} {k : Nat} {x : Mg} (h : ms[k]? = some x) : cTs bd (ms.take (k + 1)) = cTs bd (ms.take k) ++ [mTx x] := by
  unfold cTs
  rw [List.take_add_one, h]
  simp
theorem one_kept {w w1 : World} {x : Mg} (b : Below (w.alloc (.cells #[.int .i64 x.kd, .int .i64 x.vw, .int .i64 x.sq, .int .i64 x.fr, .string x.dg, .string x.bd, .string x.mc] 39)).heap.size (w.alloc (.cells #[.int .i64 x.kd, .int .i64 x.vw, .int .i64 x.sq, .int .i64 x.fr, .string x.dg, .string x.bd, .string x.mc] 39)) w1) : Below w.heap.size w w1 := (bel_new w _).trans (b.mono (by simp))
set_option maxRecDepth 100000 in
set_option maxHeartbeats 800000 in
theorem certFormed_any (bd : ByteArray) (vr : Value) (ms : List Mg) (w : World) (h : Row w vr ms) (hl : ms.length ≤ 1048576) :
    Calls Tryz.prog 15 #[crtV bd vr] w fun e w' => e = .returned (.bool (cfB ms)) ∧ Below w.heap.size w w' := by
  have HR : Hid (Row w vr ms) := h
  obtain ⟨a, cap, rfl⟩ := RowG.slice h
  clear h
  unfold crtV
  have HB : Hid (Below w.heap.size w (w.alloc (.cells #[.string bd, .slice a ms.length cap] 27))) := bel_new _ _
  have HE : Hid (cfB ms = (decide (ms.length ≤ 7) && ms.all mOK)) := rfl
  by_cases h7 : (7 : Int) < (ms.length : Int)
  · rw [decide_eq_false (by omega : ¬ ms.length ≤ 7)] at HE
    go_enter Tryz.func15, Tryz.ntmps15
    go_wp2_with fail
    go_ret
    exact ⟨ret_b (by rw [HE.out]; rfl), HB.out⟩
  rw [decide_eq_true (by omega : ms.length ≤ 7), Bool.true_and] at HE
  go_enter Tryz.func15, Tryz.ntmps15
  go_wp2_with fail
  go_loopw [12] (fun i wr => ∃ k : Nat, k ≤ ms.length ∧ i = .int .i64 k ∧ Hid (ms.all mOK = (ms.drop k).all mOK ∧ Below w.heap.size w wr)) (fun i _ => ms.length - (intOf i).toNat)
  case atStart => exact ⟨0, by omega, rfl, ⟨by rw [List.drop_zero], HB.out⟩⟩
  case round =>
    obtain ⟨k, hk, rfl, HZ⟩ := hrel
    by_cases hlt : k < ms.length
    · obtain ⟨x, hx⟩ := Rg.get_at hlt
      obtain ⟨b, off, rfl, hbl, c0, c1, c2, c3, c4, c5, c6⟩ := RowG.at (HR.out.below HZ.out.2) rfl hx
      have HX : Hid (ms.all mOK = (mOK x && (ms.drop (k + 1)).all mOK)) := HZ.out.1.trans (all_step hx)
      have HBW : Hid (Below w.heap.size w (wr.alloc (.cells #[.int .i64 x.kd, .int .i64 x.vw, .int .i64 x.sq, .int .i64 x.fr, .string x.dg, .string x.bd, .string x.mc] 39))) := HZ.out.2.alloc HZ.out.2.size _
      have HMO : Hid (Calls Tryz.prog 33 #[.agg #[.int .i64 x.kd, .int .i64 x.vw, .int .i64 x.sq, .int .i64 x.fr, .string x.dg, .string x.bd, .string x.mc]] (wr.alloc (.cells #[.int .i64 x.kd, .int .i64 x.vw, .int .i64 x.sq, .int .i64 x.fr, .string x.dg, .string x.bd, .string x.mc] 39)) fun e w' => e = .returned (.bool (mB x)) ∧ Below (wr.alloc (.cells #[.int .i64 x.kd, .int .i64 x.vw, .int .i64 x.sq, .int .i64 x.fr, .string x.dg, .string x.bd, .string x.mc] 39)).heap.size (wr.alloc (.cells #[.int .i64 x.kd, .int .i64 x.vw, .int .i64 x.sq, .int .i64 x.fr, .string x.dg, .string x.bd, .string x.mc] 39)) w') := implMessageOK_any x.kd x.vw x.sq x.fr x.dg x.bd x.mc _
      have HOE : Hid (mOK x = ((x.kd == 2) && mB x)) := rfl
      clear hx HZ
      by_cases hkd : x.kd = 2
      · have hk1 : (x.kd != 2) = false := by simp [hkd]
        have hk2 : (x.kd == 2) = true := by simp [hkd]
        rw [hk2, Bool.true_and] at HOE
        clear hkd
        cases hm : mB x with
        | false =>
          rw [hm] at HMO HOE
          have HF : Hid (ms.all mOK = false) := by show _ = _; rw [HX.out, HOE.out]; rfl
          go_wp2_with fail
          refine HMO.out.mono ?_
          rintro e w2 ⟨rfl, b2⟩
          have B2 : Hid (Below w.heap.size w w2) := HBW.out.trans (b2.mono HBW.out.size)
          clear b2
          go_wp2_with fail
          go_ret
          exact ⟨ret_b (by rw [HE.out, HF.out]), B2.out⟩
        | true =>
          rw [hm] at HMO HOE
          have HF : Hid (ms.all mOK = (ms.drop (k + 1)).all mOK) := by show _ = _; rw [HX.out, HOE.out]; rfl
          go_wp2_with fail
          refine HMO.out.mono ?_
          rintro e w2 ⟨rfl, b2⟩
          have B2 : Hid (Below w.heap.size w w2) := HBW.out.trans (b2.mono HBW.out.size)
          clear b2
          go_wp2_with fail
          exact ⟨⟨k + 1, by omega, by go_num, ⟨HF.out, B2.out⟩⟩, by simp [intOf]; omega⟩
      · have hk1 : (x.kd != 2) = true := by simp [hkd]
        have hk2 : (x.kd == 2) = false := by simp [hkd]
        rw [hk2, Bool.false_and] at HOE
        have HF : Hid (ms.all mOK = false) := by show _ = _; rw [HX.out, HOE.out]; rfl
        clear hkd
        go_wp2_with fail
        go_ret
        exact ⟨ret_b (by rw [HE.out, HF.out]), HBW.out⟩
    · obtain rfl : k = ms.length := by omega
      have HF : Hid (ms.all mOK = true) := HZ.out.1.trans all_end
      go_wp2_with fail
      go_ret
      exact ⟨ret_b (by rw [HE.out, HF.out]), HZ.out.2⟩
/-- One text more. -/
theorem list_txt {P : Program} {ops : Array Oper} {rest : List Oper} {o : Oper} {a : Act} {Q : Exit → Act → World → Prop} (hgd : o.guard = none) (s x : Operand) (t : TypeId)
    (ho : o.op = .call { callee := .builtin .append, args := #[s, x], argTypes := #[t, t] }) (i : TypeInfo) (ht : P.underlying t = some (.slice 9)) (hi : P.info? 9 = some i) (hz : i.zero = some (.string ⟨#[]⟩))
    (hsize : i.size = 1) (hby : i.bytes = 16) (B : Nat) (w0 W : World) (v : Value) (ts : List ByteArray) (z : ByteArray) (hs : a.eval s = v) (hown : OwnS W B v ts) (hg0 : Below B w0 W) (hB : B ≤ W.heap.size)
    (hx : a.eval x = .slice (some ⟨W.heap.size, 0, none⟩) 1 1) (hlen : ts.length ≤ 1000000)
    (h : ∀ v' w', OwnS w' B v' (ts ++ [z]) → Below B w0 w' → wpList P ops Q rest (a.put o.dst v') w') : wpList P ops Q (o :: rest) a (W.alloc (.cells #[.string z] 9)) := by
  have hown' : OwnS (W.alloc (.cells #[.string z] 9)) B v ts := hown.alloc _
  refine wpList_append_own_at (P := P) _ hgd s x t ho B 9 i (.string ⟨#[]⟩) 1 16 ht hi hz hsize hby rfl (by decide) v ts.length _ hs hown' ⟨W.heap.size, 0, none⟩ 1 1 [.string z] hx (by simp) (cell_one_new _ _ _) ?_ (by unfold maxLen; omega) (by omega) (by simp; omega) ?_
  · intro c hc
    simp at hc
    subst hc
    rfl
  · intro v' w' h1 h2 h3 h4
    exact h v' w' (by unfold OwnS; simpa using h1) ((hg0.alloc hB _).grown h2 (by simp; omega) (fun k hk => (hown'.lt k hk).1))
theorem own_txt1 (w : World) (B : Nat) (z : ByteArray) (hB : B ≤ w.heap.size) : OwnS (w.alloc (.cells #[.string z] 9)) B (.slice (some ⟨w.heap.size, 0, none⟩) 1 1) [z] :=
  ⟨rfl, .inr ⟨w.heap.size, 1, #[.string z], rfl, hB, heap_alloc_new w _, Nat.le_refl _, by unfold maxLen; decide, rfl, rfl⟩⟩
end Go.Proofs.YtmknnkhehkegcaaGreatDoor.Cb
