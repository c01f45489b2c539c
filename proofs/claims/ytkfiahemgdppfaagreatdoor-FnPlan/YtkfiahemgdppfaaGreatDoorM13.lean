/- Texts put together: Rt, Gm, MsgPut, Lb2, Cb. -/
import Derived.Test.YtkfiahemgdppfaaGreatDoorM12
import Derived.Test.YtkfiahemgdppfaaGreatDoorM2
import Derived.Test.YtkfiahemgdppfaaGreatDoorM6
import Derived.Test.YtkfiahemgdppfaaGreatDoorM10
import Derived.Test.YtkfiahemgdppfaaGreatDoorM11
import Derived.Maps.AppendAt
/- A list is read back from its bytes: of no program. -/
namespace Go.Proofs.YtkfiahemgdppfaaGreatDoor.Rl
open Go.RowKit Go.Proofs.YtkfiahemgdppfaaGreatDoor.Sl Go.Proofs.YtkfiahemgdppfaaGreatDoor.By Go.Proofs.YtkfiahemgdppfaaGreatDoor.Ap Go.Proofs.YtkfiahemgdppfaaGreatDoor.Rq Go.Proofs.YtkfiahemgdppfaaGreatDoor.Rr Go.Proofs.YtkfiahemgdppfaaGreatDoor.Ty Go.Proofs.YtkfiahemgdppfaaGreatDoor.Tl Go.Proofs.YtkfiahemgdppfaaGreatDoor.Of Go.Proofs.YtkfiahemgdppfaaGreatDoor.Pu Go.Proofs.YtkfiahemgdppfaaGreatDoor.Lb

/-- The bytes of texts, one behind the other. -/
def enc : List ByteArray → List Int
  | [] => []
  | t :: ts => nums (t.size : Int) 2 2 ++ (bys t ++ enc ts)
theorem enc_snoc (ts : List ByteArray) (t : ByteArray) : enc (ts ++ [t]) = enc ts ++ (nums (t.size : Int) 2 2 ++ bys t) := by
  induction ts with
  | nil => simp [enc]
  | cons x xs ih => simp [enc, ih, List.append_assoc]
theorem take_snoc (ts : List ByteArray) (k : Nat) (h : k < ts.length) : ts.take (k + 1) = ts.take k ++ [tnth ts k] := by
  rw [List.take_add_one, List.getElem?_eq_getElem h]; simp [tnth, List.getElem?_eq_getElem h]
theorem listTo_enc (ts : List ByteArray) : ∀ k, k ≤ ts.length → listTo ts k = nums (ts.length : Int) 1 1 ++ enc (ts.take k)
  | 0, _ => by simp [listTo, enc]
  | k + 1, h => by
    unfold listTo
    rw [listTo_enc ts k (by omega), take_snoc ts k (by omega), enc_snoc, List.append_assoc]
theorem nums2 (n : Nat) (h : n ≤ 65535) : nums (n : Int) 2 2 = [((n / 256 : Nat) : Int), ((n % 256 : Nat) : Int)] := by
  have e : nums (n : Int) 2 2 = [nb (n : Int) 1, nb (n : Int) 0] := rfl
  rw [e]
  unfold nb
  congr 1
  · show (n : Int) / 256 % 256 = _; omega
  · congr 1
    show (n : Int) / 1 % 256 = _; omega
theorem nums1 (n : Nat) (h : n ≤ 255) : nums (n : Int) 1 1 = [(n : Int)] := by
  have e : nums (n : Int) 1 1 = [nb (n : Int) 0] := rfl
  rw [e]
  unfold nb
  congr 1
  show (n : Int) / 1 % 256 = _; omega
theorem txt_enc (t : ByteArray) (rest : List Int) (h : t.size ≤ 65535) : txtB 2 (nums (t.size : Int) 2 2 ++ (bys t ++ rest)) = t ∧ txtR 2 (nums (t.size : Int) 2 2 ++ (bys t ++ rest)) = rest ∧ txtS 2 (nums (t.size : Int) 2 2 ++ (bys t ++ rest)) false = false := by
  rw [nums2 _ h]
  obtain ⟨a1, a2, a3⟩ := tk_yes (n := 2) (xs := [((t.size / 256 : Nat) : Int), ((t.size % 256 : Nat) : Int)] ++ (bys t ++ rest)) (by simp)
  have en : txtN 2 ([((t.size / 256 : Nat) : Int), ((t.size % 256 : Nat) : Int)] ++ (bys t ++ rest)) = t.size := by
    unfold txtN
    rw [a1]
    simp [beN]
    omega
  obtain ⟨b1, b2, b3⟩ := tk_yes (n := t.size) (xs := bys t ++ rest) (by rw [List.length_append, bys_length]; omega)
  have a2' : tkR 2 ([((t.size / 256 : Nat) : Int), ((t.size % 256 : Nat) : Int)] ++ (bys t ++ rest)) = bys t ++ rest := by rw [a2]; rfl
  unfold txtB txtR txtS
  rw [en, a2', a3, b1, b2, b3, List.take_append_of_le_length (by rw [bys_length]; omega), List.take_of_length_le (by rw [bys_length]; omega), str_bys, List.drop_append_of_le_length (by rw [bys_length]; omega), List.drop_eq_nil_of_le (by rw [bys_length]; omega)]
  exact ⟨rfl, rfl, rfl⟩
theorem l_enc (ts : List ByteArray) (hs : ∀ t ∈ ts, t.size ≤ 65535) : ∀ k, k ≤ ts.length → lR (enc ts) k = enc (ts.drop k) ∧ lT (enc ts) k = ts.take k ∧ lS (enc ts) false k = false
  | 0, _ => ⟨by simp [lR], by simp [lT], rfl⟩
  | k + 1, h => by
    obtain ⟨h1, h2, h3⟩ := l_enc ts hs k (by omega)
    have hd : ts.drop k = tnth ts k :: ts.drop (k + 1) := by
      rw [List.drop_eq_getElem_cons (by omega)]
      simp [tnth, List.getElem?_eq_getElem (show k < ts.length by omega)]
    have hm : tnth ts k ∈ ts := by unfold tnth; rw [List.getD_eq_getElem?_getD, List.getElem?_eq_getElem (by omega)]; exact List.getElem_mem _
    obtain ⟨e1, e2, e3⟩ := txt_enc (tnth ts k) (enc (ts.drop (k + 1))) (hs _ hm)
    have he : enc (ts.drop k) = nums ((tnth ts k).size : Int) 2 2 ++ (bys (tnth ts k) ++ enc (ts.drop (k + 1))) := by rw [hd]; rfl
    unfold lR lT lS
    rw [h1, h2, h3, he, e1, e2, e3, take_snoc ts k (by omega)]
    exact ⟨rfl, rfl, rfl⟩
/-- What was written is read back. -/
theorem read_back (ts : List ByteArray) (hl : ts.length ≤ 100) (hs : ∀ t ∈ ts, t.size ≤ 20000) (hz : (listTo ts ts.length).length ≤ 65536) : rdC (listTo ts ts.length) = 0 ∧ rdL (listTo ts ts.length) = ts := by
  have hx : listTo ts ts.length = (ts.length : Int) :: enc ts := by rw [listTo_enc ts _ (Nat.le_refl _), nums1 _ (by omega), List.take_length]; rfl
  obtain ⟨h1, h2, h3⟩ := l_enc ts (fun t ht => by have := hs t ht; omega) ts.length (Nat.le_refl _)
  rw [List.drop_length] at h1
  rw [List.take_length] at h2
  have a2 : tkR 1 (listTo ts ts.length) = enc ts := by rw [hx]; rfl
  have a3 : tkS 1 (listTo ts ts.length) false = false := by rw [hx]; rfl
  have an : tlN (listTo ts ts.length) = ts.length := by rw [hx]; simp [tlN, tkB, beN]
  have ok : rdOk (listTo ts ts.length) = true := by
    unfold rdOk
    rw [a2, a3, an, h1, h2, h3]
    have : okT ts = true := by
      unfold okT
      rw [List.all_eq_true.2 (fun t ht => by simpa using hs t ht), decide_eq_true hl]
      rfl
    rw [this]
    rfl
  unfold rdC rdL rlO
  rw [ok, decide_eq_false (by omega), a2, an, h2]
  exact ⟨rfl, rfl⟩

theorem txt_inv (ys : List Int) (hr : ∀ x ∈ ys, 0 ≤ x ∧ x ≤ 255) (h : txtS 2 ys false = false) : ys = nums ((txtB 2 ys).size : Int) 2 2 ++ (bys (txtB 2 ys) ++ txtR 2 ys) := by
  match ys, hr, h with
  | [], _, h => cases h
  | [x], _, h => cases h
  | x :: y :: rest, hr, h =>
    have hx := hr x (by simp)
    have hy := hr y (by simp)
    have hrr : ∀ z ∈ rest, 0 ≤ z ∧ z ≤ 255 := fun z hz => hr z (by simp [hz])
    obtain ⟨a1, a2, a3⟩ := tk_yes (n := 2) (xs := x :: y :: rest) (by simp)
    have a1' : tkB 2 (x :: y :: rest) = [x, y] := by rw [a1]; rfl
    have a2' : tkR 2 (x :: y :: rest) = rest := by rw [a2]; rfl
    have en : txtN 2 (x :: y :: rest) = (x * 256 + y).toNat := by unfold txtN; rw [a1']; simp [beN]
    unfold txtS at h
    rw [en, a2', a3] at h
    unfold tkS at h
    simp only [Bool.false_or, decide_eq_false_iff_not] at h
    obtain ⟨b1, b2, b3⟩ := tk_yes (n := (x * 256 + y).toNat) (xs := rest) (by omega)
    unfold txtB txtR
    rw [en, a2', b1, b2, strOfNums_size, List.length_take, Nat.min_eq_left (by omega), nums2 _ (by omega), bys_str _ (fun z hz => hrr z (List.mem_of_mem_take hz)), List.take_append_drop]
    show x :: y :: rest = _ :: _ :: rest
    congr 1
    · omega
    · congr 1; omega
theorem inv_all (ys : List Int) (hr : ∀ x ∈ ys, 0 ≤ x ∧ x ≤ 255) : ∀ k, lS ys false k = false → ys = enc (lT ys k) ++ lR ys k
  | 0, _ => by simp [lT, lR, enc]
  | k + 1, h => by
    have hk : lS ys false k = false := by
      cases e : lS ys false k with
      | false => rfl
      | true => unfold lS at h; rw [e, txt_true] at h; cases h
    unfold lS at h
    rw [hk] at h
    have h1 := inv_all ys hr k hk
    have h2 := txt_inv (lR ys k) (lR_range hr k) h
    show ys = enc (lT ys k ++ [txtB 2 (lR ys k)]) ++ txtR 2 (lR ys k)
    rw [enc_snoc, List.append_assoc, List.append_assoc, ← h2]
    exact h1
theorem lenTo_mono (ts : List ByteArray) {a b : Nat} (h : a ≤ b) : lenTo ts a ≤ lenTo ts b := by
  induction b with
  | zero => obtain rfl : a = 0 := by omega
            exact Nat.le_refl _
  | succ b ih =>
    by_cases e : a = b + 1
    · subst e; exact Nat.le_refl _
    · have := ih (by omega)
      have : lenTo ts (b + 1) = lenTo ts b + (2 + (tnth ts b).size) := rfl
      omega
theorem all_good (ts : List ByteArray) (hl : ts.length ≤ 100) (hs : ∀ t ∈ ts, t.size ≤ 20000) (hz : lenTo ts ts.length ≤ 65536) : lbCode ts = 0 ∧ lbOut ts = listTo ts ts.length := by
  refine lb_good ts hl (fun j hj => ?_)
  have hm : tnth ts j ∈ ts := by unfold tnth; rw [List.getD_eq_getElem?_getD, List.getElem?_eq_getElem hj]; exact List.getElem_mem _
  have h1 := hs _ hm
  have h2 := lenTo_mono ts (show j + 1 ≤ ts.length by omega)
  unfold bad
  simp
  omega
theorem small_len (ts : List ByteArray) (hs : ∀ t ∈ ts, t.size ≤ 4) : ∀ k, k ≤ ts.length → lenTo ts k ≤ 1 + 6 * k
  | 0, _ => Nat.le_refl _
  | k + 1, h => by
    have hm : tnth ts k ∈ ts := by unfold tnth; rw [List.getD_eq_getElem?_getD, List.getElem?_eq_getElem (by omega)]; exact List.getElem_mem _
    have := hs _ hm
    have := small_len ts hs k (by omega)
    have : lenTo ts (k + 1) = lenTo ts k + (2 + (tnth ts k).size) := rfl
    omega
/-- Drawn texts are written and read back. -/
theorem drawn_back (ts : List ByteArray) (hl : ts.length ≤ 5) (hs : ∀ t ∈ ts, t.size ≤ 4) : lbCode ts = 0 ∧ rdC (lbOut ts) = 0 ∧ rdL (lbOut ts) = ts ∧ (lbOut ts).length ≤ 31 := by
  have h1 := small_len ts hs ts.length (Nat.le_refl _)
  have h2 : ∀ t ∈ ts, t.size ≤ 20000 := fun t ht => by have := hs t ht; omega
  obtain ⟨e1, e2⟩ := all_good ts (by omega) h2 (by omega)
  have h3 : (listTo ts ts.length).length ≤ 31 := by rw [listTo_length]; omega
  obtain ⟨e3, e4⟩ := read_back ts (by omega) h2 (by omega)
  rw [e2]
  exact ⟨e1, e3, e4, h3⟩
/-- What was read is written again. -/
theorem write_back (xs : List Int) (hr : ∀ x ∈ xs, 0 ≤ x ∧ x ≤ 255) (h : rdC xs = 0) : lbCode (rdL xs) = 0 ∧ lbOut (rdL xs) = xs := by
  have h65 : ¬ 65536 < xs.length := fun hb => by unfold rdC at h; rw [decide_eq_true hb] at h; cases h
  have ok : rdOk xs = true := by
    cases e : rdOk xs with
    | true => rfl
    | false => unfold rdC at h; rw [decide_eq_false h65, e] at h; cases h
  have hL : rdL xs = lT (tkR 1 xs) (tlN xs) := by unfold rdL rlO; rw [ok, decide_eq_false h65]; rfl
  unfold rdOk at ok
  simp only [Bool.and_eq_true, Bool.not_eq_true'] at ok
  obtain ⟨hS, hE, hO⟩ := ok
  have hE' : lR (tkR 1 xs) (tlN xs) = [] := List.isEmpty_iff.1 hE
  match xs, hr with
  | [], _ => cases hS
  | x :: ys, hr =>
    have hx := hr x (by simp)
    have a2 : tkR 1 (x :: ys) = ys := by unfold tkR; simp
    have a3 : tkS 1 (x :: ys) false = false := by unfold tkS; simp
    have an : tlN (x :: ys) = x.toNat := by simp [tlN, tkB, beN]
    rw [a2, a3, an] at hS
    rw [a2, an] at hE' hO hL
    have hi := inv_all ys (fun z hz => hr z (by simp [hz])) x.toNat hS
    rw [hE', List.append_nil] at hi
    have hlen := lT_length ys x.toNat
    rw [hL]
    generalize lT ys x.toNat = ts at hO hi hlen
    unfold okT at hO
    simp only [Bool.and_eq_true, decide_eq_true_eq] at hO
    have hl : ts.length ≤ 100 := hO.2
    have hs : ∀ t ∈ ts, t.size ≤ 20000 := fun t ht => by simpa using List.all_eq_true.1 hO.1 t ht
    have hx2 : listTo ts ts.length = x :: ys := by
      rw [listTo_enc ts _ (Nat.le_refl _), nums1 _ (by omega), List.take_length, ← hi, hlen]
      show ((x.toNat : Nat) : Int) :: ys = x :: ys
      congr 1
      omega
    obtain ⟨e1, e2⟩ := all_good ts hl hs (by rw [← listTo_length, hx2]; omega)
    exact ⟨e1, by rw [e2, hx2]⟩
end Go.Proofs.YtkfiahemgdppfaaGreatDoor.Rl

/- Messages in a slice: read, measured, copied, compared. -/
namespace Go.Proofs.YtkfiahemgdppfaaGreatDoor.Gm
open Go.RowKit Go.Proofs.YtkfiahemgdppfaaGreatDoor.Sl Go.Proofs.YtkfiahemgdppfaaGreatDoor.Ap Go.Proofs.YtkfiahemgdppfaaGreatDoor.Rg

structure Mg where
  kd : Int
  vw : Int
  sq : Int
  fr : Int
  dg : ByteArray
  bd : ByteArray
  mc : ByteArray
instance : Inhabited Mg := ⟨⟨0, 0, 0, 0, ⟨#[]⟩, ⟨#[]⟩, ⟨#[]⟩⟩⟩
def E1 (w : World) (b o : Nat) (x : Mg) : Prop := w.cell? ⟨b, o, none⟩ = some (.int .i64 x.kd) ∧ w.cell? ⟨b, o + 1, none⟩ = some (.int .i64 x.vw) ∧ w.cell? ⟨b, o + 2, none⟩ = some (.int .i64 x.sq) ∧ w.cell? ⟨b, o + 3, none⟩ = some (.int .i64 x.fr) ∧ w.cell? ⟨b, o + 4, none⟩ = some (.string x.dg) ∧ w.cell? ⟨b, o + 5, none⟩ = some (.string x.bd) ∧ w.cell? ⟨b, o + 6, none⟩ = some (.string x.mc)
/-- The slice v holds the things xs. -/
def Row (w : World) (v : Value) (xs : List Mg) : Prop := RowG 7 E1 w v xs
def oneV (x : Mg) : Value := .agg #[.int .i64 x.kd, .int .i64 x.vw, .int .i64 x.sq, .int .i64 x.fr, .string x.dg, .string x.bd, .string x.mc]
theorem stays1 : Stays E1 := fun _ _ b _ _ hb hlt ⟨h0, h1, h2, h3, h4, h5, h6⟩ => ⟨(hb.cell (p := ⟨b, _, none⟩) hlt).trans h0, (hb.cell (p := ⟨b, _, none⟩) hlt).trans h1, (hb.cell (p := ⟨b, _, none⟩) hlt).trans h2, (hb.cell (p := ⟨b, _, none⟩) hlt).trans h3, (hb.cell (p := ⟨b, _, none⟩) hlt).trans h4, (hb.cell (p := ⟨b, _, none⟩) hlt).trans h5, (hb.cell (p := ⟨b, _, none⟩) hlt).trans h6⟩
theorem Row.below {w w' : World} {v : Value} {xs : List Mg} (h : Row w v xs) (hb : Below w.heap.size w w') : Row w' v xs := RowG.below stays1 h hb
/-- Its texts are no longer than n. -/
def Tz (n : Nat) (x : Mg) : Prop := x.dg.size ≤ n ∧ x.bd.size ≤ n ∧ x.mc.size ≤ n
set_option maxRecDepth 100000 in
set_option maxHeartbeats 800000 in
theorem sz1_any (x : Mg) (l : Nat) (w : World) (hl : l ≤ 1048576) (hz : Tz maxLen x) :
    Calls Tryz.prog 63 #[oneV x, .int .i64 l] w fun e w' => (∃ r : Int, e = .returned (.int .i64 r) ∧ (r = -1 ∨ ∃ q : Nat, r = q ∧ q ≤ l ∧ Tz l x)) ∧ Below w.heap.size w w' := by
  unfold Tz maxLen at hz
  obtain ⟨z0, z1, z2⟩ := hz
  unfold oneV
  by_cases g0 : (l : Int) < (x.dg.size : Int)
  · go_enter Tryz.func63, Tryz.ntmps63
    go_wp2_with fail
    go_ret
    exact ⟨⟨_, rfl, .inl rfl⟩, bel_new _ _⟩
  by_cases g1 : (l : Int) - (x.dg.size : Int) < (x.bd.size : Int)
  · go_enter Tryz.func63, Tryz.ntmps63
    go_wp2_with fail
    go_ret
    exact ⟨⟨_, rfl, .inl rfl⟩, bel_new _ _⟩
  by_cases g2 : (l : Int) - (x.dg.size : Int) - (x.bd.size : Int) < (x.mc.size : Int)
  · go_enter Tryz.func63, Tryz.ntmps63
    go_wp2_with fail
    go_ret
    exact ⟨⟨_, rfl, .inl rfl⟩, bel_new _ _⟩
  go_enter Tryz.func63, Tryz.ntmps63
  go_wp2_with fail
  go_ret
  refine ⟨⟨_, rfl, .inr ⟨l - (x.dg.size + x.bd.size + x.mc.size), by omega, by omega, ?_⟩⟩, bel_new _ _⟩
  unfold Tz
  omega
set_option maxRecDepth 100000 in
set_option maxHeartbeats 800000 in
theorem szS_any (v : Value) (xs : List Mg) (l : Nat) (w : World) (h : Row w v xs) (hm : ∀ x ∈ xs, Tz maxLen x) (hz : xs.length ≤ maxLen) (hl : l ≤ 1048576) :
    Calls Tryz.prog 32 #[v, .int .i64 l] w fun e w' => (∃ r : Int, e = .returned (.int .i64 r) ∧ (r = -1 ∨ ∃ q : Nat, r = q ∧ q ≤ 1048576 ∧ xs.length ≤ 1048576 ∧ ∀ x ∈ xs, Tz 1048576 x)) ∧ Below w.heap.size w w' := by
  have hz2 : xs.length ≤ 9223372036854775807 := by unfold maxLen at hz; omega
  have HM : Hid (∀ x ∈ xs, Tz maxLen x) := hm
  have HR : Hid (Row w v xs) := h
  obtain ⟨a, cap, rfl⟩ := RowG.slice h
  clear hz hm h
  by_cases hb : (l : Int) < (xs.length : Int)
  · have hb' : (l : Int) - (xs.length : Int) < 0 := by omega
    go_enter Tryz.func32, Tryz.ntmps32
    go_wp2_with fail
    go_ret
    exact ⟨⟨_, rfl, .inl rfl⟩, Below.refl _ _⟩
  have hb' : ¬ (l : Int) - (xs.length : Int) < 0 := by omega
  go_enter Tryz.func32, Tryz.ntmps32
  go_wp2_with fail
  go_loopw [1, 5] (fun l0 i wr => ∃ (k q : Nat), k ≤ xs.length ∧ i = .int .i64 k ∧ l0 = .int .i64 q ∧ q ≤ 1048576 ∧ Hid (∀ j x, j < k → xs[j]? = some x → Tz 1048576 x) ∧ Hid (Below w.heap.size w wr)) (fun _ i _ => xs.length - (intOf i).toNat)
  case atStart => exact ⟨0, l - xs.length, by omega, rfl, by congr 1; omega, by omega, fun j x hj => by omega, Below.refl _ _⟩
  case round =>
    obtain ⟨k, q, hk, rfl, rfl, hq, HJ, HB⟩ := hrel
    by_cases hlt : k < xs.length
    · obtain ⟨x, hx⟩ := Rg.get_at hlt
      obtain ⟨b, off, rfl, hbl, c0, c1, c2, c3, c4, c5, c6⟩ := RowG.at (HR.out.below HB.out) rfl hx
      have HK : Hid (xs[k]? = some x) := hx
      have HMk : Hid (Tz maxLen x) := HM.out _ (mem_at hx)
      clear hx
      go_wp2_with fail
      refine (sz1_any x q wr hq HMk.out).mono ?_
      rintro e w2 ⟨⟨r, rfl, hr⟩, b2⟩
      have HB2 : Hid (Below w.heap.size w w2) := HB.out.trans (b2.mono HB.out.size)
      clear b2
      rcases hr with rfl | ⟨p, rfl, hp, hs⟩
      · go_wp2_with fail
        go_ret
        exact ⟨⟨_, rfl, .inl rfl⟩, HB2.out⟩
      · have HJ2 : Hid (∀ j y, j < k + 1 → xs[j]? = some y → Tz 1048576 y) := fun j y hj hy => by
          by_cases e : j = k
          · subst e
            rw [HK.out] at hy
            cases hy
            unfold Tz at hs ⊢
            omega
          · exact HJ.out j y (by omega) hy
        have hp0 : ¬ (p : Int) < 0 := by omega
        clear hs
        go_wp2_with fail
        exact ⟨⟨k + 1, p, by omega, by go_num, rfl, by omega, HJ2, HB2⟩, by simp [intOf]; omega⟩
    · obtain rfl : k = xs.length := by omega
      go_wp2_with fail
      go_ret
      refine ⟨⟨_, rfl, .inr ⟨q, rfl, hq, by omega, fun x hx => ?_⟩⟩, HB.out⟩
      obtain ⟨j, hj, e⟩ := List.mem_iff_getElem.1 hx
      exact HJ.out j x hj (by rw [List.getElem?_eq_getElem hj, e])
set_option maxRecDepth 100000 in
set_option maxHeartbeats 800000 in
theorem to1_any (x : Mg) (w : World) :
    Calls Tryz.prog 72 #[oneV x] w fun e w' => e = .returned (oneV x) ∧ Below w.heap.size w w' := by
  unfold oneV
  go_enter Tryz.func72, Tryz.ntmps72
  go_wp2_with fail
  refine bodyPost_ret (v := oneV x) (by simp [oneV, results, Tryz.results72, go_sem]) rfl ⟨rfl, ?_⟩
  exact (((Below.refl _ _).alloc (Nat.le_refl _) _).alloc (by simp) _).alloc (by simp; omega) _
theorem info1 : (Tryz.prog.info? 26).map (fun i => (i.zero, i.size, i.bytes)) = some (some (.agg #[.int .i64 0, .int .i64 0, .int .i64 0, .int .i64 0, .string ⟨#[]⟩, .string ⟨#[]⟩, .string ⟨#[]⟩]), 7, 80) := by kernel_rfl
/-- The copy: its first k are written. -/
def Cop (xs : List Mg) (k : Nat) (A : Array Value) : Prop := A.size = xs.length * 7 ∧ ∀ j x, j < k → xs[j]? = some x → A[j * 7]? = some (.int .i64 x.kd) ∧ A[j * 7 + 1]? = some (.int .i64 x.vw) ∧ A[j * 7 + 2]? = some (.int .i64 x.sq) ∧ A[j * 7 + 3]? = some (.int .i64 x.fr) ∧ A[j * 7 + 4]? = some (.string x.dg) ∧ A[j * 7 + 5]? = some (.string x.bd) ∧ A[j * 7 + 6]? = some (.string x.mc)
theorem cop1 {xs : List Mg} {k : Nat} {A : Array Value} {x : Mg} (h : Cop xs k A) (hx : xs[k]? = some x) :
    Cop xs (k + 1) ((((((((A).setIfInBounds (k * 7) (.int .i64 x.kd)).setIfInBounds (k * 7 + 1) (.int .i64 x.vw)).setIfInBounds (k * 7 + 2) (.int .i64 x.sq)).setIfInBounds (k * 7 + 3) (.int .i64 x.fr)).setIfInBounds (k * 7 + 4) (.string x.dg)).setIfInBounds (k * 7 + 5) (.string x.bd)).setIfInBounds (k * 7 + 6) (.string x.mc)) := by
  have hk := lt_at hx
  have hs := h.1
  refine ⟨by simpa using h.1, fun j y hj hy => ?_⟩
  simp only [Array.getElem?_setIfInBounds, Array.size_setIfInBounds]
  by_cases e : j = k
  · subst e
    rw [hx] at hy
    cases hy
    refine ⟨?_, ?_, ?_, ?_, ?_, ?_, ?_⟩
    all_goals (repeat' (first | rw [if_pos rfl, if_pos (by omega)] | rw [if_neg (by omega)]))
  · obtain ⟨h0, h1, h2, h3, h4, h5, h6⟩ := h.2 j y (by omega) hy
    refine ⟨?_, ?_, ?_, ?_, ?_, ?_, ?_⟩
    all_goals (repeat' rw [if_neg (by omega)])
    all_goals assumption
set_option maxRecDepth 100000 in
set_option maxHeartbeats 800000 in
theorem toS_any (v : Value) (xs : List Mg) (w : World) (h : Row w v xs) (hl : xs.length ≤ 1048576) :
    Calls Tryz.prog 40 #[v] w fun e w' => ∃ g, e = .returned (.slice (some ⟨g, 0, none⟩) xs.length xs.length) ∧ w.heap.size ≤ g ∧ g < w'.heap.size ∧ (∀ i x, xs[i]? = some x → E1 w' g (i * 7) x) ∧ Below w.heap.size w w' ∧ Wr w' g (xs.length * 7) := by
  have HR : Hid (Row w v xs) := h
  obtain ⟨a, cap, rfl⟩ := RowG.slice h
  clear h
  obtain ⟨i0, hi, hz0, hz1, hz2⟩ := info_parts info1
  have hmk := run_make (P := Tryz.prog) w 24 26 i0 (.agg #[.int .i64 0, .int .i64 0, .int .i64 0, .int .i64 0, .string ⟨#[]⟩, .string ⟨#[]⟩, .string ⟨#[]⟩]) Tryz.underlying24 hi hz0 .i64 .i64 (xs.length : Int) (xs.length : Int) (by omega) (by omega) (by rw [hz2]; omega) (by omega)
  have hA0 : Cop xs 0 (madeCells (Value.agg #[.int .i64 0, .int .i64 0, .int .i64 0, .int .i64 0, .string ⟨#[]⟩, .string ⟨#[]⟩, .string ⟨#[]⟩]).cells ((xs.length : Int).toNat * i0.size)) := ⟨by rw [hz1]; simp [madeCells, Value.cells], fun j x hj => absurd hj (by omega)⟩
  generalize madeCells (Value.agg #[.int .i64 0, .int .i64 0, .int .i64 0, .int .i64 0, .string ⟨#[]⟩, .string ⟨#[]⟩, .string ⟨#[]⟩]).cells ((xs.length : Int).toNat * i0.size) = A0 at hmk hA0
  rw [Int.toNat_natCast] at hmk
  go_enter Tryz.func40, Tryz.ntmps40
  go_wp2_with fail
  clear hmk
  go_loopw [4] (fun i wr => ∃ k : Nat, ∃ A : Array Value, k ≤ xs.length ∧ i = .int .i64 k ∧ Hid (wr.heap[w.heap.size]? = some (.cells A 26 (0, 0)) ∧ Cop xs k A ∧ Below w.heap.size w wr)) (fun i _ => xs.length - (intOf i).toNat)
  case atStart => exact ⟨0, A0, by omega, rfl, ⟨heap_alloc_new w _, hA0, bel_new _ _⟩⟩
  case round =>
    clear hA0
    obtain ⟨k, A, hk, rfl, HA⟩ := hrel
    by_cases hlt : k < xs.length
    · obtain ⟨x, hx⟩ := Rg.get_at hlt
      obtain ⟨b, off, rfl, hbl, c0, c1, c2, c3, c4, c5, c6⟩ := RowG.at (HR.out.below HA.out.2.2) rfl hx
      have HX : Hid (xs[k]? = some x) := hx
      clear hx
      go_wp2_with fail
      refine (to1_any x wr).mono ?_
      rintro e w2 ⟨rfl, b2⟩
      have hg := (Array.getElem?_eq_some_iff.1 HA.out.1).1
      have HA2 : Hid (w2.heap[w.heap.size]? = some (.cells A 26 (0, 0)) ∧ Cop xs k A ∧ Below w.heap.size w w2) := ⟨(b2.block _ hg).trans HA.out.1, HA.out.2.1, HA.out.2.2.trans (b2.mono HA.out.2.2.size)⟩
      clear b2 c0 c1 c2 c3 c4 c5 c6 HA
      have hsz : k * 7 + 6 < A.size := by rw [HA2.out.2.1.1]; omega
      obtain ⟨d0, f0⟩ := blk_cell HA2.out.1 (k * 7) (x := A[k * 7]) (Array.getElem?_eq_getElem (by omega))
      obtain ⟨d1, f1⟩ := blk_cell HA2.out.1 (k * 7 + 1) (x := A[k * 7 + 1]) (Array.getElem?_eq_getElem (by omega))
      obtain ⟨d2, f2⟩ := blk_cell HA2.out.1 (k * 7 + 2) (x := A[k * 7 + 2]) (Array.getElem?_eq_getElem (by omega))
      obtain ⟨d3, f3⟩ := blk_cell HA2.out.1 (k * 7 + 3) (x := A[k * 7 + 3]) (Array.getElem?_eq_getElem (by omega))
      obtain ⟨d4, f4⟩ := blk_cell HA2.out.1 (k * 7 + 4) (x := A[k * 7 + 4]) (Array.getElem?_eq_getElem (by omega))
      obtain ⟨d5, f5⟩ := blk_cell HA2.out.1 (k * 7 + 5) (x := A[k * 7 + 5]) (Array.getElem?_eq_getElem (by omega))
      obtain ⟨d6, f6⟩ := blk_cell HA2.out.1 (k * 7 + 6) (x := A[k * 7 + 6]) (Array.getElem?_eq_getElem (by omega))
      unfold oneV
      go_wp2_with fail
      refine ⟨⟨k + 1, (((((((A).setIfInBounds (k * 7) (.int .i64 x.kd)).setIfInBounds (k * 7 + 1) (.int .i64 x.vw)).setIfInBounds (k * 7 + 2) (.int .i64 x.sq)).setIfInBounds (k * 7 + 3) (.int .i64 x.fr)).setIfInBounds (k * 7 + 4) (.string x.dg)).setIfInBounds (k * 7 + 5) (.string x.bd)).setIfInBounds (k * 7 + 6) (.string x.mc), by omega, by go_num, ⟨(blk_set (blk_set (blk_set (blk_set (blk_set (blk_set (blk_set HA2.out.1 _ _) _ _) _ _) _ _) _ _) _ _) _ _), cop1 HA2.out.2.1 HX.out, ?_⟩⟩, by simp [intOf]; omega⟩
      exact (Below.setCell (Below.setCell (Below.setCell (Below.setCell (Below.setCell (Below.setCell (Below.setCell HA2.out.2.2 (p := ⟨w.heap.size, k * 7, none⟩) (Nat.le_refl _) (.int .i64 x.kd)) (p := ⟨w.heap.size, k * 7 + 1, none⟩) (Nat.le_refl _) (.int .i64 x.vw)) (p := ⟨w.heap.size, k * 7 + 2, none⟩) (Nat.le_refl _) (.int .i64 x.sq)) (p := ⟨w.heap.size, k * 7 + 3, none⟩) (Nat.le_refl _) (.int .i64 x.fr)) (p := ⟨w.heap.size, k * 7 + 4, none⟩) (Nat.le_refl _) (.string x.dg)) (p := ⟨w.heap.size, k * 7 + 5, none⟩) (Nat.le_refl _) (.string x.bd)) (p := ⟨w.heap.size, k * 7 + 6, none⟩) (Nat.le_refl _) (.string x.mc))
    · obtain rfl : k = xs.length := by omega
      go_wp2_with fail
      go_ret
      refine ⟨w.heap.size, rfl, Nat.le_refl _, (Array.getElem?_eq_some_iff.1 HA.out.1).1, fun i x hi => ?_, HA.out.2.2, ⟨A, _, HA.out.1, Nat.le_of_eq HA.out.2.1.1.symm⟩⟩
      obtain ⟨e0, e1, e2, e3, e4, e5, e6⟩ := HA.out.2.1.2 i x (lt_at hi) hi
      exact ⟨(Joins.cell_of_block HA.out.1 _).trans e0, (Joins.cell_of_block HA.out.1 _).trans e1, (Joins.cell_of_block HA.out.1 _).trans e2, (Joins.cell_of_block HA.out.1 _).trans e3, (Joins.cell_of_block HA.out.1 _).trans e4, (Joins.cell_of_block HA.out.1 _).trans e5, (Joins.cell_of_block HA.out.1 _).trans e6⟩
theorem toS_row {w' : World} {g : Nat} {xs : List Mg} (hg : g < w'.heap.size) (h : ∀ i x, xs[i]? = some x → E1 w' g (i * 7) x) : Row w' (.slice (some ⟨g, 0, none⟩) xs.length xs.length) xs :=
  ⟨_, _, rfl, .inr ⟨g, 0, rfl, Nat.le_refl _, hg, fun i x hi => by rw [Nat.zero_add]; exact h i x hi⟩⟩
set_option maxRecDepth 100000 in
set_option maxHeartbeats 800000 in
theorem eq1_same (x : Mg) (w : World) :
    Calls Tryz.prog 80 #[oneV x, oneV x] w fun e w' => e = .returned (.bool true) ∧ Below w.heap.size w w' := by
  unfold oneV
  have q0 : (x.kd != x.kd) = false := by simp
  have q1 : (x.vw != x.vw) = false := by simp
  have q2 : (x.sq != x.sq) = false := by simp
  have q3 : (x.fr != x.fr) = false := by simp
  have q4 : (x.dg.toList != x.dg.toList) = false := by simp
  have q5 : (x.bd.toList != x.bd.toList) = false := by simp
  have q6 : (x.mc.toList != x.mc.toList) = false := by simp
  have r4 : (x.dg.toList == x.dg.toList) = true := by simp
  have r5 : (x.bd.toList == x.bd.toList) = true := by simp
  have r6 : (x.mc.toList == x.mc.toList) = true := by simp
  go_enter Tryz.func80, Tryz.ntmps80
  go_wp2_with fail
  go_ret
  exact ⟨rfl, ((Below.refl _ _).alloc (Nat.le_refl _) _).alloc (by simp) _⟩
set_option maxRecDepth 100000 in
set_option maxHeartbeats 800000 in
theorem eqS_same (v u0 : Value) (xs : List Mg) (w : World) (h : Row w v xs) (g : Row w u0 xs) (hl : xs.length ≤ 1048576) :
    Calls Tryz.prog 49 #[v, u0] w fun e w' => e = .returned (.bool true) ∧ Below w.heap.size w w' := by
  have HR : Hid (Row w v xs) := h
  have HG : Hid (Row w u0 xs) := g
  obtain ⟨a, cap, rfl⟩ := RowG.slice h
  obtain ⟨a', cap', rfl⟩ := RowG.slice g
  clear h g
  have hne : ((xs.length : Int) != (xs.length : Int)) = false := by simp
  go_enter Tryz.func49, Tryz.ntmps49
  go_wp2_with fail
  go_loopw [5] (fun i wr => ∃ k : Nat, k ≤ xs.length ∧ i = .int .i64 k ∧ Hid (Below w.heap.size w wr)) (fun i _ => xs.length - (intOf i).toNat)
  case atStart => exact ⟨0, by omega, rfl, Below.refl _ _⟩
  case round =>
    obtain ⟨k, hk, rfl, HB⟩ := hrel
    by_cases hlt : k < xs.length
    · obtain ⟨x, hx⟩ := Rg.get_at hlt
      obtain ⟨b, off, rfl, hb, c0, c1, c2, c3, c4, c5, c6⟩ := RowG.at (HR.out.below HB.out) rfl hx
      obtain ⟨b', off', rfl, hb', d0, d1, d2, d3, d4, d5, d6⟩ := RowG.at (HG.out.below HB.out) rfl hx
      have HK : Hid (xs[k]? = some x) := hx
      clear hx
      have hp0 : (0 : Int) ≤ (k : Int) := by omega
      have hp1 : (k : Int) < (xs.length : Int) := by omega
      go_upto_region 6 with fail
      obtain ⟨X, hX, W, QI0, QO0⟩ := Qc.klass wr
      have QI : Hid (∀ w', Below wr.heap.size wr w' → ∃ x, w' = W x) := QI0
      have QO : Hid (∀ x, Below wr.heap.size wr (W x)) := QO0
      clear QI0 QO0
      have y0 := Qc.cell_all QO.out c0
      have z0 := Qc.cell_all QO.out d0
      have y1 := Qc.cell_all QO.out c1
      have z1 := Qc.cell_all QO.out d1
      have y2 := Qc.cell_all QO.out c2
      have z2 := Qc.cell_all QO.out d2
      have y3 := Qc.cell_all QO.out c3
      have z3 := Qc.cell_all QO.out d3
      have y4 := Qc.cell_all QO.out c4
      have z4 := Qc.cell_all QO.out d4
      have y5 := Qc.cell_all QO.out c5
      have z5 := Qc.cell_all QO.out d5
      have y6 := Qc.cell_all QO.out c6
      have z6 := Qc.cell_all QO.out d6
      refine Qc.region_class (W := W) (by kernel_rfl) (by kernel_rfl) (QI.out _ Qc.from_drew) ?_
      repeat (go_big_quiet_step (first | (go_at_call 80; refine (eq1_same x _).mono ?_; rintro e w2 ⟨rfl, b2⟩; exact ⟨rfl, Qc.back QI.out QO.out b2⟩)))
      refine wpQuiet_nil ?_
      rintro _ ⟨xq, rfl⟩
      have G2 : Hid (Below w.heap.size w (W xq)) := HB.out.trans ((QO.out xq).mono HB.out.size)
      generalize W xq = wq at G2 ⊢
      go_wp2_with fail
      exact ⟨⟨k + 1, by omega, by go_num, G2⟩, by simp [intOf]; omega⟩
    · go_wp2_with fail
      go_ret
      exact ⟨rfl, HB.out⟩
end Go.Proofs.YtkfiahemgdppfaaGreatDoor.Gm
namespace Go.Proofs.YtkfiahemgdppfaaGreatDoor.Op
open Go.ChangeShapes Go.WideShapes Go.ChangeAt Go.RowKit Go.Deep Go.Proofs.YtkfiahemgdppfaaGreatDoor.Rg Go.Proofs.YtkfiahemgdppfaaGreatDoor.Gm
set_option maxRecDepth 100000 in
theorem openGm {H : Type} {enc : TypeId × Value → H} {w : World} {base : Nat} {spare : Nat → Bool} {held : Bool} {fuel : Nat} {cs : List Value} {y : DataW H × List MemPlace} (hf : DataW.trod enc Tryz.prog w base spare held fuel 41 cs = some y) :
    ∃ v xs, cs = [v] ∧ Gm.Row w v xs ∧ xs.length ≤ maxLen ∧ ∀ x ∈ xs, Gm.Tz maxLen x := by
  have k1 : Tryz.prog.cellsOf 3 = 1 := by kernel_rfl
  have k2 : Tryz.prog.cellsOf 9 = 1 := by kernel_rfl
  refine open_rows Tryz.underlying41 (c := 7) (by kernel_rfl) (by decide) (fun n cs b o y hl hc ht => ?_) hf
  obtain ⟨xs, k, hk, _, _, hxl, hff⟩ := DataW.trod_struct Tryz.underlying116 ht
  match cs, hl with
  | [v0, v1, v2, v3, v4, v5, v6], _ =>
    match xs, hxl with
    | [y0, y1, y2, y3, y4, y5, y6], _ =>
      have g0 := hff 0 _ rfl
      have g1 := hff 1 _ rfl
      have g2 := hff 2 _ rfl
      have g3 := hff 3 _ rfl
      have g4 := hff 4 _ rfl
      have g5 := hff 5 _ rfl
      have g6 := hff 6 _ rfl
      simp [k1, k2] at g0 g1 g2 g3 g4 g5 g6
      obtain ⟨z0, q0, _, _⟩ := DataW.trod_int Tryz.underlying3 g0
      obtain ⟨z1, q1, _, _⟩ := DataW.trod_int Tryz.underlying3 g1
      obtain ⟨z2, q2, _, _⟩ := DataW.trod_int Tryz.underlying3 g2
      obtain ⟨z3, q3, _, _⟩ := DataW.trod_int Tryz.underlying3 g3
      obtain ⟨z4, q4, _, m4⟩ := DataW.trod_string Tryz.underlying9 g4
      obtain ⟨z5, q5, _, m5⟩ := DataW.trod_string Tryz.underlying9 g5
      obtain ⟨z6, q6, _, m6⟩ := DataW.trod_string Tryz.underlying9 g6
      simp at q0 q1 q2 q3 q4 q5 q6
      subst q0 q1 q2 q3 q4 q5 q6
      exact ⟨⟨z0, z1, z2, z3, z4, z5, z6⟩, ⟨cell_eq hc 0 (by decide) rfl, cell_eq hc 1 (by decide) rfl, cell_eq hc 2 (by decide) rfl, cell_eq hc 3 (by decide) rfl, cell_eq hc 4 (by decide) rfl, cell_eq hc 5 (by decide) rfl, cell_eq hc 6 (by decide) rfl⟩, m4, m5, m6⟩
end Go.Proofs.YtkfiahemgdppfaaGreatDoor.Op

/- Messages' bytes: both MessageBytes functions. -/
namespace Go.Proofs.YtkfiahemgdppfaaGreatDoor.Mp
open Go.RowKit Go.Proofs.YtkfiahemgdppfaaGreatDoor.Sl Go.Proofs.YtkfiahemgdppfaaGreatDoor.By Go.Proofs.YtkfiahemgdppfaaGreatDoor.Rq Go.Proofs.YtkfiahemgdppfaaGreatDoor.Ap Go.Proofs.YtkfiahemgdppfaaGreatDoor.Pu Go.Proofs.YtkfiahemgdppfaaGreatDoor.Ms Go.Proofs.YtkfiahemgdppfaaGreatDoor.Rp

theorem empty_size (s : ByteArray) : s.toList.isEmpty = decide (s.size = 0) := by
  rw [ByteArray.toList_eq]
  obtain ⟨⟨l⟩⟩ := s
  cases l <;> simp [ByteArray.size]
/-- The first five bytes of a message. -/
def headBs (kd vw sq fr : Int) (dg : ByteArray) : List Int := nums kd 1 1 ++ (nums vw 1 1 ++ (nums sq 1 1 ++ (nums fr 1 1 ++ nums (dg.size : Int) 1 1)))
def plainBs (kd vw sq fr : Int) (dg bd : ByteArray) : List Int := headBs kd vw sq fr dg ++ bys dg ++ nums (bd.size : Int) 2 2 ++ bys bd
/-- A message's bytes. -/
def msgBs (kd vw sq fr : Int) (dg bd mc : ByteArray) : List Int := plainBs kd vw sq fr dg bd ++ bys mc
theorem headBs_length (kd vw sq fr : Int) (dg : ByteArray) : (headBs kd vw sq fr dg).length = 5 := by unfold headBs; simp only [List.length_append, nums_length]
theorem plainBs_length (kd vw sq fr : Int) (dg bd : ByteArray) : (plainBs kd vw sq fr dg bd).length = 7 + dg.size + bd.size := by unfold plainBs; simp only [List.length_append, headBs_length, nums_length, bys_length]; omega
theorem msgBs_length (kd vw sq fr : Int) (dg bd mc : ByteArray) : (msgBs kd vw sq fr dg bd mc).length = 7 + dg.size + bd.size + mc.size := by unfold msgBs; rw [List.length_append, plainBs_length, bys_length]
theorem msgBs_range (kd vw sq fr : Int) (dg bd mc : ByteArray) : ∀ z ∈ msgBs kd vw sq fr dg bd mc, 0 ≤ z ∧ z ≤ 255 := by
  intro z hz
  unfold msgBs plainBs headBs at hz
  simp only [List.mem_append, or_assoc] at hz
  rcases hz with h | h | h | h | h | h | h | h | h
  all_goals first | exact nums_range _ _ _ z h | exact bys_range _ z h
theorem msg_small {kd vw sq fr : Int} {dg bd mc : ByteArray} (h : msgB kd vw sq fr dg bd mc = true) : dg.size ≤ 32 ∧ bd.size ≤ 20000 ∧ mc.size = 8 := by
  rw [msg_eq] at h
  simp only [Bool.and_eq_true, beq_iff_eq, decide_eq_true_eq] at h
  obtain ⟨_, _, h3, h4, h5⟩ := h
  refine ⟨?_, by omega, by omega⟩
  rcases kinds kd with rfl | rfl | rfl | rfl | rfl | hk
  · rw [kind1] at h5; unfold placeB at h5; simp at h5; omega
  · rw [kind2] at h5; unfold placeB at h5; simp at h5; omega
  · rw [kind3] at h5; unfold placeB at h5; simp at h5; omega
  · rw [kind4, empty_size] at h5; simp only [Bool.and_eq_true, decide_eq_true_eq] at h5; omega
  · rw [kind5, empty_size] at h5; simp only [Bool.and_eq_true, decide_eq_true_eq] at h5; omega
  · rw [kind_no _ _ _ _ hk] at h5; cases h5
def msgOut (kd vw sq fr : Int) (dg bd mc : ByteArray) : List Int := if msgB kd vw sq fr dg bd mc then msgBs kd vw sq fr dg bd mc else []
def msgCode (kd vw sq fr : Int) (dg bd mc : ByteArray) : Int := if msgB kd vw sq fr dg bd mc then 0 else 1

set_option maxHeartbeats 1600000 in
theorem implMessageBytes_any (kd vw sq fr : Int) (dg bd mc : ByteArray) (w : World) :
    Calls Tryz.prog 121 #[msgV kd vw sq fr dg bd mc] w fun e w' => ∃ v, e = .returned (.tuple #[v, .int .i64 (msgCode kd vw sq fr dg bd mc)]) ∧ OwnB 5 w' w.heap.size v (msgOut kd vw sq fr dg bd mc) ∧ Below w.heap.size w w' := by
  obtain ⟨i0, hi, hz0, hz1, hz2⟩ := info_parts Sl.info5
  cases hq : msgB kd vw sq fr dg bd mc
  · have HC : Hid (msgCode kd vw sq fr dg bd mc = 1) := by show _ = _; unfold msgCode; rw [hq]; rfl
    have HO : Hid (msgOut kd vw sq fr dg bd mc = []) := by show _ = _; unfold msgOut; rw [hq]; rfl
    go_enter Tryz.func121, Tryz.ntmps121
    unfold msgV
    go_wp2_with (go_at_call 95; refine (implMessageOK_any kd vw sq fr dg bd mc _).mono ?_; rintro e w1 ⟨rfl, b1⟩; rw [hq]; have g1 := box_first b1; clear b1)
    go_ret2
    exact ⟨_, ret_tup HC.out.symm, by rw [HO.out]; exact own_nil _ _ _, box_old g1⟩
  have HC : Hid (msgCode kd vw sq fr dg bd mc = 0) := by show _ = _; unfold msgCode; rw [hq]; rfl
  have HO : Hid (msgOut kd vw sq fr dg bd mc = msgBs kd vw sq fr dg bd mc) := by show _ = _; unfold msgOut; rw [hq]; rfl
  obtain ⟨hd, hb, hm⟩ := msg_small hq
  have HM : Hid (mc.size = 8) := hm
  clear hm
  go_enter Tryz.func121, Tryz.ntmps121
  unfold msgV
  go_wp2_with fail
  refine (implMessageOK_any kd vw sq fr dg bd mc _).mono ?_
  rintro e w1 ⟨rfl, b1⟩
  rw [hq]
  have g1 := box_first b1
  obtain ⟨q0, q1, q2, q3, q4, q5, q6⟩ := msg_box g1
  clear b1
  go_wp2_with fail
  refine (putNumber_any (.slice none 0 0) [] kd 1 w1.heap.size _ (own_nil _ _ _) (Nat.le_refl _) (by decide) (by simp)).mono ?_
  rintro e w2 ⟨v2, rfl, o2, k2⟩
  obtain ⟨q0', q1', q2', q3', q4', q5', q6'⟩ := msg_box (box_next g1 k2.nil)
  have O2 : Hid (_) := o2
  clear q0 q1 q2 q3 q4 q5 q6 o2
  go_wp2_with fail
  refine (putNumber_any v2 _ vw 1 w1.heap.size _ O2.out k2.size (by decide) (by simp only [List.length_append, nums_length]; decide)).mono ?_
  rintro e w3 ⟨v3, rfl, o3, k3'⟩
  have k3 := k2.trans k3'
  obtain ⟨q0, q1, q2, q3, q4, q5, q6⟩ := msg_box (box_next g1 k3.nil)
  have O3 : Hid (_) := o3
  clear q0' q1' q2' q3' q4' q5' q6' o3 O2 k2 k3'
  go_wp2_with fail
  refine (putNumber_any v3 _ sq 1 w1.heap.size _ O3.out k3.size (by decide) (by simp only [List.length_append, nums_length]; decide)).mono ?_
  rintro e w4 ⟨v4, rfl, o4, k4'⟩
  have k4 := k3.trans k4'
  obtain ⟨q0', q1', q2', q3', q4', q5', q6'⟩ := msg_box (box_next g1 k4.nil)
  have O4 : Hid (_) := o4
  clear q0 q1 q2 q3 q4 q5 q6 o4 O3 k3 k4'
  go_wp2_with fail
  refine (putNumber_any v4 _ fr 1 w1.heap.size _ O4.out k4.size (by decide) (by simp only [List.length_append, nums_length]; decide)).mono ?_
  rintro e w5 ⟨v5, rfl, o5, k5'⟩
  have k5 := k4.trans k5'
  obtain ⟨q0, q1, q2, q3, q4, q5, q6⟩ := msg_box (box_next g1 k5.nil)
  have O5 : Hid (_) := o5
  clear q0' q1' q2' q3' q4' q5' q6' o5 O4 k4 k5'
  go_wp2_with fail
  refine (putText_any v5 _ dg 1 w1.heap.size _ O5.out k5.size (by decide) (by simp only [List.length_append, nums_length]; decide) (by omega)).mono ?_
  rintro e w6 ⟨v6, rfl, o6, k6'⟩
  have k6 := k5.trans k6'
  obtain ⟨q0', q1', q2', q3', q4', q5', q6'⟩ := msg_box (box_next g1 k6.nil)
  have O6 : Hid (_) := o6
  clear q0 q1 q2 q3 q4 q5 q6 o6 O5 k5 k6'
  go_wp2_with fail
  refine (putText_any v6 _ bd 2 w1.heap.size _ O6.out k6.size (by decide) (by simp only [List.length_append, nums_length, bys_length, List.length_nil]; omega) (by omega)).mono ?_
  rintro e w7 ⟨v7, rfl, o7, k7'⟩
  have k7 := k6.trans k7'
  obtain ⟨q0, q1, q2, q3, q4, q5, q6⟩ := msg_box (box_next g1 k7.nil)
  have hl : Hid (([] ++ nums kd 1 1 ++ nums vw 1 1 ++ nums sq 1 1 ++ nums fr 1 1 ++ nums (dg.size : Int) 1 1 ++ bys dg ++ nums (bd.size : Int) 2 2 ++ bys bd).length + mc.size ≤ 140737488355328) := by
    show _ ≤ _
    have := HM.out
    simp only [List.length_append, nums_length, bys_length, List.length_nil]
    omega
  have HE : Hid ([] ++ nums kd 1 1 ++ nums vw 1 1 ++ nums sq 1 1 ++ nums fr 1 1 ++ nums (dg.size : Int) 1 1 ++ bys dg ++ nums (bd.size : Int) 2 2 ++ bys bd ++ bys mc = msgBs kd vw sq fr dg bd mc) := by
    show _ = _
    unfold msgBs plainBs headBs
    simp [List.append_assoc]
  clear q0' q1' q2' q3' q4' q5' q6' O6 k6 k7' hd hb
  go_wp2_with (at_builtin; go_must (refine list_str (by rfl) _ _ 22 9 (by rfl) Tryz.underlying22 Tryz.underlying9 hi hz0 hz1 hz2 w1.heap.size _ _ mc _ (by rfl) (by rfl) o7 k7.size hl.out ?_; intro v8 w8 o8 k8))
  go_ret2
  rw [HE.out] at o8
  exact ⟨_, ret_tup HC.out.symm, by rw [HO.out]; exact own_le o8 (box_old g1).size, box_old (box_next g1 (k7.trans k8).nil)⟩

set_option maxRecDepth 100000 in
set_option maxHeartbeats 1600000 in
theorem l02Plain_any (kd vw sq fr : Int) (dg bd mc : ByteArray) (w : World) (hd : dg.size ≤ 1000) (hb : bd.size ≤ 100000) :
    Calls Tryz.prog 85 #[msgV kd vw sq fr dg bd mc] w fun e w' => ∃ v, e = .returned v ∧ OwnB 5 w' (w.heap.size + 1) v (plainBs kd vw sq fr dg bd) ∧ Below (w.heap.size + 1) (w.alloc (.cells #[.int .i64 kd, .int .i64 vw, .int .i64 sq, .int .i64 fr, .string dg, .string bd, .string mc] 26)) w' := by
  obtain ⟨i0, hi, hz0, hz1, hz2⟩ := info_parts Sl.info5
  have hs0 : Hid (w.heap.size + 1 = (w.alloc (.cells #[.int .i64 kd, .int .i64 vw, .int .i64 sq, .int .i64 fr, .string dg, .string bd, .string mc] 26)).heap.size) := (size_new _ _).symm
  have HH : Hid ([kd % 256, vw % 256, sq % 256, fr % 256, (dg.size : Int) % 256] = headBs kd vw sq fr dg) := by show _ = _; simp [headBs, nums, nb]
  go_enter Tryz.func85, Tryz.ntmps85
  unfold msgV
  go_upto_region 1 with fail
  go_cut [3] (fun s3 wx => OwnB 5 wx (w.heap.size + 1) s3 (headBs kd vw sq fr dg) ∧ Below (w.heap.size + 1) (w.alloc (.cells #[.int .i64 kd, .int .i64 vw, .int .i64 sq, .int .i64 fr, .string dg, .string bd, .string mc] 26)) wx)
  case first =>
    go_wp2_with fail
    go_meet
    refine ⟨?_, (Below.refl _ _).alloc (by simp) _⟩
    rw [← HH.out]
    have := own_lit 5 (w.alloc (.cells #[.int .i64 kd, .int .i64 vw, .int .i64 sq, .int .i64 fr, .string dg, .string bd, .string mc] 26)) (w.heap.size + 1) [kd % 256, vw % 256, sq % 256, fr % 256, (dg.size : Int) % 256] 5 rfl (by simp) (by decide)
    rw [← hs0.out] at this
    exact this
  case rest =>
  obtain ⟨o1, g1⟩ := hcut
  have B1 : w.heap.size + 1 ≤ wc.heap.size := Nat.le_trans (Nat.le_of_eq hs0.out) g1.size
  obtain ⟨q0, q1, q2, q3, q4, q5, q6⟩ := msg_box g1
  have HE : Hid (headBs kd vw sq fr dg ++ bys dg ++ nums (bd.size : Int) 2 2 ++ bys bd = plainBs kd vw sq fr dg bd) := rfl
  have HL1 : Hid ((headBs kd vw sq fr dg).length = 5) := headBs_length _ _ _ _ _
  generalize headBs kd vw sq fr dg = zs at o1 HE HL1
  clear q0 q1 q2 q3 q6 HH
  go_upto_region 2 with fail
  go_cut [3] (fun s3 wx => OwnB 5 wx (w.heap.size + 1) s3 (zs ++ bys dg ++ nums (bd.size : Int) 2 2) ∧ Below (w.heap.size + 1) (w.alloc (.cells #[.int .i64 kd, .int .i64 vw, .int .i64 sq, .int .i64 fr, .string dg, .string bd, .string mc] 26)) wx)
  case first =>
    have HW : Hid (∀ g, u3.ownBlock = some g → g < wc.heap.size) := own_lt o1
    go_region_law (first
      | (go_simp; go_at_call 86; refine (l02Number_any (bd.size : Int) 2 _ (by decide)).mono ?_; rintro e w3 ⟨v3, rfl, o3, b3⟩; (first | (with_reducible (have hA := ordC o2 g2 B2 b3); obtain ⟨f24, g3, B3⟩ := hA; have r28 := own_rowB o3 (nums_range _ _ _)) | (with_reducible (have hA := ordB2 o1 g1 B1 b3); obtain ⟨f21, g3, B3⟩ := hA; have o28 : OwnB 5 w3 wc.heap.size v3 _ := o3)); obtain ⟨y0, y1, y2, y3, y4, y5, y6⟩ := msg_box g3; clear o3 b3; try go_simp)
      | (refine step_row (by rfl) _ _ 22 (by rfl) Tryz.underlying22 hi hz0 hz1 hz2 (w.heap.size + 1) _ _ _ _ _ (by rfl) (by rfl) f24 B3 r28 (by simp only [List.length_append, nums_length, HL1.out, bys_length]; omega) ?_; intro v5 w5 o5 k5; have g5 := g3.trans (k5.below f24 B3))
      | (refine step_row (by rfl) _ _ 22 (by rfl) Tryz.underlying22 hi hz0 hz1 hz2 (w.heap.size + 1) _ _ _ _ _ (by rfl) (by rfl) o2 B2 r28 (by simp only [List.length_append, nums_length, HL1.out, bys_length]; omega) ?_; intro v5 w5 o5 k5; have g5 := g2.trans (k5.below o2 B2))
      | (refine step_str (by rfl) _ _ 22 9 (by rfl) Tryz.underlying22 Tryz.underlying9 hi hz0 hz1 hz2 (w.heap.size + 1) _ _ dg _ (by rfl) (by rfl) f21 B3 (by simp only [HL1.out]; omega) ?_; intro v2 w2 o2 k2; have g2 := g3.trans (k2.below f21 B3); have B2 : w.heap.size + 1 ≤ w2.heap.size := Nat.le_trans B3 k2.size; have r28 := own_rowB (own_kp o28 k2 HW.out) (nums_range _ _ _); obtain ⟨x0, x1, x2, x3, x4, x5, x6⟩ := msg_box g2)
      | (refine step_str (by rfl) _ _ 22 9 (by rfl) Tryz.underlying22 Tryz.underlying9 hi hz0 hz1 hz2 (w.heap.size + 1) _ _ dg _ (by rfl) (by rfl) (own_drew o1) B1 (by simp only [HL1.out]; omega) ?_; intro v2 w2 o2 k2; have g2 := g1.drew.trans (k2.below (own_drew o1) B1); have B2 : w.heap.size + 1 ≤ w2.heap.size := Nat.le_trans B1 k2.size; obtain ⟨x0, x1, x2, x3, x4, x5, x6⟩ := msg_box g2))
    all_goals
      go_wp2_with fail
      go_meet
      exact ⟨o5, g5⟩
  case rest =>
  clear q4 q5 o1 g1 B1
  obtain ⟨o1, g1⟩ := hcut
  have B1 : w.heap.size + 1 ≤ wc.heap.size := Nat.le_trans (Nat.le_of_eq hs0.out) g1.size
  obtain ⟨q0, q1, q2, q3, q4, q5, q6⟩ := msg_box g1
  have hl : Hid ((zs ++ bys dg ++ nums (bd.size : Int) 2 2).length + bd.size ≤ 140737488355328) := by show _ ≤ _; simp only [List.length_append, nums_length, bys_length, HL1.out]; omega
  clear q0 q1 q2 q3 q4 q6 hd hb
  go_wp2_with (at_builtin; go_must (refine list_str (by rfl) _ _ 22 9 (by rfl) Tryz.underlying22 Tryz.underlying9 hi hz0 hz1 hz2 (w.heap.size + 1) _ _ bd _ (by rfl) (by rfl) o1 B1 hl.out ?_; intro v8 w8 o8 k8))
  go_ret
  rw [HE.out] at o8
  exact ⟨_, rfl, o8, g1.trans (k8.below o1 B1)⟩

set_option maxRecDepth 100000 in
set_option maxHeartbeats 1600000 in
theorem l02Message_any (kd vw sq fr : Int) (dg bd mc : ByteArray) (w : World) (hd : dg.size ≤ 1000) (hb : bd.size ≤ 100000) (hm : mc.size ≤ 1000) :
    Calls Tryz.prog 81 #[msgV kd vw sq fr dg bd mc] w fun e w' => ∃ v, e = .returned v ∧ OwnB 5 w' (w.heap.size + 1) v (msgBs kd vw sq fr dg bd mc) ∧ Below (w.heap.size + 1) (w.alloc (.cells #[.int .i64 kd, .int .i64 vw, .int .i64 sq, .int .i64 fr, .string dg, .string bd, .string mc] 26)) w' := by
  obtain ⟨i0, hi, hz0, hz1, hz2⟩ := info_parts Sl.info5
  have hs0 : Hid (w.heap.size + 1 = (w.alloc (.cells #[.int .i64 kd, .int .i64 vw, .int .i64 sq, .int .i64 fr, .string dg, .string bd, .string mc] 26)).heap.size) := (size_new _ _).symm
  have hl : Hid ((plainBs kd vw sq fr dg bd).length + mc.size ≤ 140737488355328) := by show _ ≤ _; rw [plainBs_length]; omega
  go_enter Tryz.func81, Tryz.ntmps81
  unfold msgV
  go_upto_region 1 with fail
  go_region_law (first
    | (go_simp; go_at_call 85; refine (l02Plain_any kd vw sq fr dg bd mc _ hd hb).mono ?_; rintro e w3 ⟨v3, rfl, o3, b3⟩; with_reducible (have hA := ordB hs0.out (box_old b3)); obtain ⟨g3, B3⟩ := hA; have f3 := own_le o3 (Nat.le_trans (Nat.le_of_eq hs0.out) (Nat.le_succ _)); obtain ⟨y0, y1, y2, y3, y4, y5, y6⟩ := msg_box g3; clear o3 b3; try go_simp)
    | (refine step_str (by rfl) _ _ 22 9 (by rfl) Tryz.underlying22 Tryz.underlying9 hi hz0 hz1 hz2 (w.heap.size + 1) _ _ mc _ (by rfl) (by rfl) f3 B3 hl.out ?_; intro v5 w5 o5 k5; have g5 := g3.trans (k5.below f3 B3)))
  all_goals
    go_wp2_with fail
    go_ret
    exact ⟨_, rfl, o5, g5⟩

end Go.Proofs.YtkfiahemgdppfaaGreatDoor.Mp

/- A list's bytes: the specification's ListBytes. -/
namespace Go.Proofs.YtkfiahemgdppfaaGreatDoor.Lb
open Go.RowKit Go.Proofs.YtkfiahemgdppfaaGreatDoor.Sl Go.Proofs.YtkfiahemgdppfaaGreatDoor.By Go.Proofs.YtkfiahemgdppfaaGreatDoor.Rq Go.Proofs.YtkfiahemgdppfaaGreatDoor.Ap Go.Proofs.YtkfiahemgdppfaaGreatDoor.Pu Go.Proofs.YtkfiahemgdppfaaGreatDoor.Ty Go.Proofs.YtkfiahemgdppfaaGreatDoor.Rp Go.Proofs.YtkfiahemgdppfaaGreatDoor.Rr

set_option maxRecDepth 100000 in
set_option maxHeartbeats 1600000 in
theorem l02List_any (v : Value) (ts : List ByteArray) (w : World) (h : RowT w v ts) (hl : ts.length ≤ 100) (hf : ∀ k, k ≤ ts.length → lenTo ts k ≤ 65536) :
    Calls Tryz.prog 55 #[v] w fun e w' => ∃ v', e = .returned v' ∧ OwnB 5 w' w.heap.size v' (listTo ts ts.length) ∧ Below w.heap.size w w' := by
  obtain ⟨i0, hi, hz0, hz1, hz2⟩ := info_parts Sl.info5
  obtain ⟨a, cap, rfl, h⟩ := h
  have HF : Hid (∀ k, k ≤ ts.length → lenTo ts k ≤ 65536) := hf
  have hl' : (ts.length : Int) ≤ 100 := by omega
  clear hf
  go_enter Tryz.func55, Tryz.ntmps55
  go_wp2_with fail
  go_loopw [3, 4] (fun b i wr => ∃ k : Nat, k ≤ ts.length ∧ i = .int .i64 k ∧ OwnB 5 wr w.heap.size b (listTo ts k) ∧ Below w.heap.size w wr) (fun _ i _ => ts.length - (intOf i).toNat)
  case atStart =>
    refine ⟨0, by omega, rfl, ?_, (Below.refl _ _).alloc (Nat.le_refl _) _⟩
    have := own_one 5 w w.heap.size (ts.length : Int) (Nat.le_refl _)
    have e : listTo ts 0 = [(ts.length : Int)] := by simp [listTo, nums, nb]; omega
    rw [e]
    exact this
  case round =>
    obtain ⟨k, hk, rfl, ho, hbel⟩ := hrel
    have hB := hbel.size
    by_cases hlt : k < ts.length
    · rcases h with h | ⟨b, off, rfl, hc, hb, hcell⟩
      · exact absurd hlt (by rw [h]; simp)
      have hp0 : (0 : Int) ≤ (k : Int) := by omega
      have hp1 : (k : Int) < (ts.length : Int) := by omega
      have HC : Hid (∀ W, Below w.heap.size w W → W.cell? ⟨b, off + k, none⟩ = some (.string (tnth ts k))) := fun W hW => (hW.cell (p := ⟨b, off + k, none⟩) hb).trans (hcell k hlt)
      have hc1 := HC.out wr hbel
      have HL0 : Hid ((listTo ts k).length = lenTo ts k) := listTo_length ts k
      have HLT : Hid (listTo ts (k + 1) = listTo ts k ++ (nums ((tnth ts k).size : Int) 2 2 ++ bys (tnth ts k))) := rfl
      have HLL : Hid (lenTo ts k + (2 + (tnth ts k).size) ≤ 65536) := HF.out (k + 1) hlt
      have HW : Hid (∀ g, u3.ownBlock = some g → g < wr.heap.size) := own_lt ho
      clear hcell
      generalize tnth ts k = t at hc1 HC HLT HLL
      go_wp2_with fail
      go_region_law (first
        | (go_simp; go_at_call 86; refine (l02Number_any (t.size : Int) 2 _ (by decide)).mono ?_; rintro e w3 ⟨v3, rfl, o3, b3⟩; with_reducible (have hA := ordB2 ho hbel hB b3); obtain ⟨f15, g3, B3⟩ := hA; have r21 := own_rowB o3 (nums_range _ _ _); have y1 := HC.out w3 g3; clear o3 b3; try go_simp)
        | (refine step_row (by rfl) _ _ 22 (by rfl) Tryz.underlying22 hi hz0 hz1 hz2 w.heap.size _ _ _ _ _ (by rfl) (by rfl) f15 B3 r21 (by rw [HL0.out, nums_length]; have := HLL.out; omega) ?_; intro v2 w2 o2 k2; have g2 := g3.trans (k2.below f15 B3); have B2 : w.heap.size ≤ w2.heap.size := Nat.le_trans B3 k2.size; have x1 := HC.out w2 g2)
        | (refine step_str (by rfl) _ _ 22 9 (by rfl) Tryz.underlying22 Tryz.underlying9 hi hz0 hz1 hz2 w.heap.size _ _ t _ (by rfl) (by rfl) o2 B2 (by rw [List.length_append, HL0.out, nums_length]; have := HLL.out; omega) ?_; intro v5 w5 o5 k5; have g5 := g2.trans (k5.below o2 B2)))
      all_goals
        rw [List.append_assoc, ← HLT.out] at o5
        go_wp2_with fail
        exact ⟨⟨k + 1, by omega, by go_num, o5, g5⟩, by simp [intOf]; omega⟩
    · obtain rfl : k = ts.length := by omega
      go_wp2
      go_ret
      exact ⟨_, rfl, ho, hbel⟩

theorem own_none (w w1 : World) (hb : Below w.heap.size w w1) : OwnB 5 (w1.alloc (.cells #[] 5)) w.heap.size (.slice (some ⟨w1.heap.size, 0, none⟩) 0 0) [] := own_made _ _ _ _ _ hb.size (by simp [maxLen]) rfl
end Go.Proofs.YtkfiahemgdppfaaGreatDoor.Lb

/- Certificates: their form, their bytes: the program. -/
namespace Go.Proofs.YtkfiahemgdppfaaGreatDoor.Cb
open Go.RowKit Go.Proofs.YtkfiahemgdppfaaGreatDoor.Sl Go.Proofs.YtkfiahemgdppfaaGreatDoor.By Go.Proofs.YtkfiahemgdppfaaGreatDoor.Ap Go.Proofs.YtkfiahemgdppfaaGreatDoor.Rq Go.Proofs.YtkfiahemgdppfaaGreatDoor.Ms Go.Proofs.YtkfiahemgdppfaaGreatDoor.Mp Go.Proofs.YtkfiahemgdppfaaGreatDoor.Rp Go.Proofs.YtkfiahemgdppfaaGreatDoor.Lb Go.Proofs.YtkfiahemgdppfaaGreatDoor.Gm
open Go.Proofs.YtkfiahemgdppfaaGreatDoor.Ty (RowT tnth)
open Go.Proofs.YtkfiahemgdppfaaGreatDoor.Tl (OwnS)
open Go.Proofs.YtkfiahemgdppfaaGreatDoor.Rg (RowG RowG.slice RowG.at lt_at mem_at blk_cell bel_new)

def crtV (bd : ByteArray) (vr : Value) : Value := .agg #[.string bd, vr]
/-- A right PbPrepare; a certificate that has its form; its texts. -/
def mB (x : Mg) : Bool := msgB x.kd x.vw x.sq x.fr x.dg x.bd x.mc
def mOK (x : Mg) : Bool := (x.kd == 2) && mB x
def cfB (ms : List Mg) : Bool := decide (ms.length ≤ 7) && ms.all mOK
def mTx (x : Mg) : ByteArray := strOfNums (msgBs x.kd x.vw x.sq x.fr x.dg x.bd x.mc)
def cTs (bd : ByteArray) (ms : List Mg) : List ByteArray := bd :: ms.map mTx
def cOut (bd : ByteArray) (ms : List Mg) : List Int := if cfB ms then lbOut (cTs bd ms) else []
def cCode (bd : ByteArray) (ms : List Mg) : Int := if cfB ms then lbCode (cTs bd ms) else 1
theorem ret_b {a b : Bool} (h : a = b) : Ending.returned (.bool a) = .returned (.bool b) := by rw [h]
theorem all_step {ms : List Mg} {k : Nat} {x : Mg} (h : ms[k]? = some x) : (ms.drop k).all mOK = (mOK x && (ms.drop (k + 1)).all mOK) := by
  obtain ⟨hk, rfl⟩ := List.getElem?_eq_some_iff.1 h
  rw [List.drop_eq_getElem_cons hk, List.all_cons]
theorem all_end {ms : List Mg} : (ms.drop ms.length).all mOK = true := by rw [List.drop_length]; rfl
theorem mTx_size (x : Mg) : (mTx x).size = 7 + x.dg.size + x.bd.size + x.mc.size := by unfold mTx; rw [strOfNums_size, msgBs_length]
theorem ok_size {x : Mg} (h : mOK x = true) : (mTx x).size = 47 ∧ mB x = true := by
  unfold mOK at h
  rw [Bool.and_eq_true, beq_iff_eq] at h
  refine ⟨?_, h.2⟩
  have h2 : msgB x.kd x.vw x.sq x.fr x.dg x.bd x.mc = true := h.2
  obtain ⟨_, _, hm⟩ := msg_small h2
  rw [h.1, msg_eq] at h2
  simp only [Bool.and_eq_true] at h2
  have h5 := h2.2.2.2.2
  rw [kind2, empty_size] at h5
  unfold placeB at h5
  simp only [Bool.and_eq_true, decide_eq_true_eq, beq_iff_eq] at h5
  rw [mTx_size]
  omega
theorem cf_all {ms : List Mg} (h : cfB ms = true) : ms.length ≤ 7 ∧ ∀ x ∈ ms, mOK x = true := by
  unfold cfB at h
  rw [Bool.and_eq_true, decide_eq_true_eq, List.all_eq_true] at h
  exact h
theorem cTs_step {bd : ByteArray} {ms : List Mg} {k : Nat} {x : Mg} (h : ms[k]? = some x) : cTs bd (ms.take (k + 1)) = cTs bd (ms.take k) ++ [mTx x] := by
  unfold cTs
  rw [List.take_add_one, h]
  simp
theorem one_kept {w w1 : World} {x : Mg} (b : Below (w.alloc (.cells #[.int .i64 x.kd, .int .i64 x.vw, .int .i64 x.sq, .int .i64 x.fr, .string x.dg, .string x.bd, .string x.mc] 26)).heap.size (w.alloc (.cells #[.int .i64 x.kd, .int .i64 x.vw, .int .i64 x.sq, .int .i64 x.fr, .string x.dg, .string x.bd, .string x.mc] 26)) w1) : Below w.heap.size w w1 := (bel_new w _).trans (b.mono (by simp))
set_option maxRecDepth 100000 in
set_option maxHeartbeats 800000 in
theorem certFormed_any (bd : ByteArray) (vr : Value) (ms : List Mg) (w : World) (h : Row w vr ms) (hl : ms.length ≤ 1048576) :
    Calls Tryz.prog 118 #[crtV bd vr] w fun e w' => e = .returned (.bool (cfB ms)) ∧ Below w.heap.size w w' := by
  have HR : Hid (Row w vr ms) := h
  obtain ⟨a, cap, rfl⟩ := RowG.slice h
  clear h
  unfold crtV
  have HB : Hid (Below w.heap.size w (w.alloc (.cells #[.string bd, .slice a ms.length cap] 37))) := bel_new _ _
  have HE : Hid (cfB ms = (decide (ms.length ≤ 7) && ms.all mOK)) := rfl
  by_cases h7 : (7 : Int) < (ms.length : Int)
  · rw [decide_eq_false (by omega : ¬ ms.length ≤ 7)] at HE
    go_enter Tryz.func118, Tryz.ntmps118
    go_wp2_with fail
    go_ret
    exact ⟨ret_b (by rw [HE.out]; rfl), HB.out⟩
  rw [decide_eq_true (by omega : ms.length ≤ 7), Bool.true_and] at HE
  go_enter Tryz.func118, Tryz.ntmps118
  go_wp2_with fail
  go_loopw [12] (fun i wr => ∃ k : Nat, k ≤ ms.length ∧ i = .int .i64 k ∧ Hid (ms.all mOK = (ms.drop k).all mOK ∧ Below w.heap.size w wr)) (fun i _ => ms.length - (intOf i).toNat)
  case atStart => exact ⟨0, by omega, rfl, ⟨by rw [List.drop_zero], HB.out⟩⟩
  case round =>
    obtain ⟨k, hk, rfl, HZ⟩ := hrel
    by_cases hlt : k < ms.length
    · obtain ⟨x, hx⟩ := Rg.get_at hlt
      obtain ⟨b, off, rfl, hbl, c0, c1, c2, c3, c4, c5, c6⟩ := RowG.at (HR.out.below HZ.out.2) rfl hx
      have HX : Hid (ms.all mOK = (mOK x && (ms.drop (k + 1)).all mOK)) := HZ.out.1.trans (all_step hx)
      have HBW : Hid (Below w.heap.size w (wr.alloc (.cells #[.int .i64 x.kd, .int .i64 x.vw, .int .i64 x.sq, .int .i64 x.fr, .string x.dg, .string x.bd, .string x.mc] 26))) := HZ.out.2.alloc HZ.out.2.size _
      have HMO : Hid (Calls Tryz.prog 95 #[.agg #[.int .i64 x.kd, .int .i64 x.vw, .int .i64 x.sq, .int .i64 x.fr, .string x.dg, .string x.bd, .string x.mc]] (wr.alloc (.cells #[.int .i64 x.kd, .int .i64 x.vw, .int .i64 x.sq, .int .i64 x.fr, .string x.dg, .string x.bd, .string x.mc] 26)) fun e w' => e = .returned (.bool (mB x)) ∧ Below (wr.alloc (.cells #[.int .i64 x.kd, .int .i64 x.vw, .int .i64 x.sq, .int .i64 x.fr, .string x.dg, .string x.bd, .string x.mc] 26)).heap.size (wr.alloc (.cells #[.int .i64 x.kd, .int .i64 x.vw, .int .i64 x.sq, .int .i64 x.fr, .string x.dg, .string x.bd, .string x.mc] 26)) w') := implMessageOK_any x.kd x.vw x.sq x.fr x.dg x.bd x.mc _
      have HOE : Hid (mOK x = ((x.kd == 2) && mB x)) := rfl
      clear hx HZ
      by_cases hkd : x.kd = 2
      · have hk1 : (x.kd != 2) = false := by simp [hkd]
        have hk2 : (x.kd == 2) = true := by simp [hkd]
        rw [hk2, Bool.true_and] at HOE
        clear hkd
        cases hm : mB x with
        | false =>
          rw [hm] at HMO HOE
          have HF : Hid (ms.all mOK = false) := by show _ = _; rw [HX.out, HOE.out]; rfl
          go_wp2_with fail
          refine HMO.out.mono ?_
          rintro e w2 ⟨rfl, b2⟩
          have B2 : Hid (Below w.heap.size w w2) := HBW.out.trans (b2.mono HBW.out.size)
          clear b2
          go_wp2_with fail
          go_ret
          exact ⟨ret_b (by rw [HE.out, HF.out]), B2.out⟩
        | true =>
          rw [hm] at HMO HOE
          have HF : Hid (ms.all mOK = (ms.drop (k + 1)).all mOK) := by show _ = _; rw [HX.out, HOE.out]; rfl
          go_wp2_with fail
          refine HMO.out.mono ?_
          rintro e w2 ⟨rfl, b2⟩
          have B2 : Hid (Below w.heap.size w w2) := HBW.out.trans (b2.mono HBW.out.size)
          clear b2
          go_wp2_with fail
          exact ⟨⟨k + 1, by omega, by go_num, ⟨HF.out, B2.out⟩⟩, by simp [intOf]; omega⟩
      · have hk1 : (x.kd != 2) = true := by simp [hkd]
        have hk2 : (x.kd == 2) = false := by simp [hkd]
        rw [hk2, Bool.false_and] at HOE
        have HF : Hid (ms.all mOK = false) := by show _ = _; rw [HX.out, HOE.out]; rfl
        clear hkd
        go_wp2_with fail
        go_ret
        exact ⟨ret_b (by rw [HE.out, HF.out]), HBW.out⟩
    · obtain rfl : k = ms.length := by omega
      have HF : Hid (ms.all mOK = true) := HZ.out.1.trans all_end
      go_wp2_with fail
      go_ret
      exact ⟨ret_b (by rw [HE.out, HF.out]), HZ.out.2⟩
/-- One text more. -/
theorem list_txt {P : Program} {ops : Array Oper} {rest : List Oper} {o : Oper} {a : Act} {Q : Exit → Act → World → Prop} (hgd : o.guard = none) (s x : Operand) (t : TypeId)
    (ho : o.op = .call { callee := .builtin .append, args := #[s, x], argTypes := #[t, t] }) (i : TypeInfo) (ht : P.underlying t = some (.slice 9)) (hi : P.info? 9 = some i) (hz : i.zero = some (.string ⟨#[]⟩))
    (hsize : i.size = 1) (hby : i.bytes = 16) (B : Nat) (w0 W : World) (v : Value) (ts : List ByteArray) (z : ByteArray) (hs : a.eval s = v) (hown : OwnS W B v ts) (hg0 : Below B w0 W) (hB : B ≤ W.heap.size)
    (hx : a.eval x = .slice (some ⟨W.heap.size, 0, none⟩) 1 1) (hlen : ts.length ≤ 1000000)
    (h : ∀ v' w', OwnS w' B v' (ts ++ [z]) → Below B w0 w' → wpList P ops Q rest (a.put o.dst v') w') : wpList P ops Q (o :: rest) a (W.alloc (.cells #[.string z] 9)) := by
  have hown' : OwnS (W.alloc (.cells #[.string z] 9)) B v ts := hown.alloc _
  refine wpList_append_own_at (P := P) _ hgd s x t ho B 9 i (.string ⟨#[]⟩) 1 16 ht hi hz hsize hby rfl (by decide) v ts.length _ hs hown' ⟨W.heap.size, 0, none⟩ 1 1 [.string z] hx (by simp) (cell_one_new _ _ _) ?_ (by unfold maxLen; omega) (by omega) (by simp; omega) ?_
  · intro c hc
    simp at hc
    subst hc
    rfl
  · intro v' w' h1 h2 h3 h4
    exact h v' w' (by unfold OwnS; simpa using h1) ((hg0.alloc hB _).grown h2 (by simp; omega) (fun k hk => (hown'.lt k hk).1))
theorem own_txt1 (w : World) (B : Nat) (z : ByteArray) (hB : B ≤ w.heap.size) : OwnS (w.alloc (.cells #[.string z] 9)) B (.slice (some ⟨w.heap.size, 0, none⟩) 1 1) [z] :=
  ⟨rfl, .inr ⟨w.heap.size, 1, #[.string z], rfl, hB, heap_alloc_new w _, Nat.le_refl _, by unfold maxLen; decide, rfl, rfl⟩⟩
end Go.Proofs.YtkfiahemgdppfaaGreatDoor.Cb
