/- Texts put together: Rl, Of, SpReq, EqReq, Sp. -/
import Derived.Test.YtmknnkhehkegcaaGreatDoorM10
import Derived.Deep.CutRange
import Derived.Deep.DeepCutAuto
import Derived.Test.YtmknnkhehkegcaaGreatDoorM1
import Derived.Deep.RegionWith
import Derived.BigQuiet
/- A list is read: impl. -/
namespace Go.Proofs.YtmknnkhehkegcaaGreatDoor.Rl
open Go.RowKit Go.Proofs.YtmknnkhehkegcaaGreatDoor.Sl Go.Proofs.YtmknnkhehkegcaaGreatDoor.By Go.Proofs.YtmknnkhehkegcaaGreatDoor.Ap Go.Proofs.YtmknnkhehkegcaaGreatDoor.Rq Go.Proofs.YtmknnkhehkegcaaGreatDoor.Rr Go.Proofs.YtmknnkhehkegcaaGreatDoor.Ty Go.Proofs.YtmknnkhehkegcaaGreatDoor.Tl

/-- What a reader of lists answers. -/
def rlC (long ok : Bool) : Int := if long then 2 else if ok then 0 else 3
def rlO (long ok : Bool) (ts : List ByteArray) : List ByteArray := if rlC long ok = 0 then ts else []
theorem OwnS.below {w w' : World} {B : Nat} {v : Value} {ts : List ByteArray} (h : OwnS w B v ts) (hb : Below w.heap.size w w') : OwnS w' B v ts := by
  obtain ⟨hl, h⟩ := h
  refine ⟨hl, ?_⟩
  rcases h with h | ⟨g, cap, cur, hv, hB, hgb, h⟩
  · exact .inl h
  · exact .inr ⟨g, cap, cur, hv, hB, (hb.block g (Array.getElem?_eq_some_iff.1 hgb).1).trans hgb, h⟩
theorem OwnS.mono {w : World} {B B' : Nat} {v : Value} {ts : List ByteArray} (h : OwnS w B v ts) (hb : B' ≤ B) : OwnS w B' v ts := by
  obtain ⟨hl, h⟩ := h
  refine ⟨hl, ?_⟩
  rcases h with h | ⟨g, cap, cur, hv, hB, h⟩
  · exact .inl h
  · exact .inr ⟨g, cap, cur, hv, by omega, h⟩
theorem OwnS.nil (w : World) (B : Nat) : OwnS w B (.slice none 0 0) [] := World.ownsRow_nil _ _ _ _

set_option maxHeartbeats 800000 in
theorem readJustList_gen (v : Value) (xs : List Int) (w : World) (h : RowB w v xs) (hl : xs.length ≤ 1048576) (ts : List ByteArray) (rs : List Int) (sb : Bool) (hn : ts.length ≤ 1048576) (hs : ∀ i, i < ts.length → (tnth ts i).size ≤ 1048576)
    (htake : ∀ (W : World) (p B : Nat), Rdr B W p xs false → B ≤ p → xs.length ≤ 70000 → (∀ x ∈ xs, 0 ≤ x ∧ x ≤ 255) → Calls Tryz.prog 40 #[.pointer (some ⟨p, 0, none⟩)] W fun e w' => ∃ v', e = .returned v' ∧ OwnS w' W.heap.size v' ts ∧ Rdr B w' p rs sb ∧ W.grownBy w' (some p)) :
    Calls Tryz.prog 39 #[v, .func (Fn.func 40) #[] #[], .func (Fn.func 41) #[] #[]] w fun e w' => ∃ v', e = .returned (.tuple #[v', .int .i64 (rlC (decide (65536 < xs.length)) (!sb && (rs.isEmpty && okT ts)))]) ∧ OwnS w' w.heap.size v' (rlO (decide (65536 < xs.length)) (!sb && (rs.isEmpty && okT ts)) ts) ∧ Below w.heap.size w w' := by
  have HT : Hid (_) := htake
  clear htake
  have HU : Hid (RowU w.heap.size w v xs) := RowU.of h
  obtain ⟨a, cap, rfl, _, hr⟩ := h
  by_cases hb : 65536 < xs.length
  · have hb' : (65536 : Int) < (xs.length : Int) := by omega
    have HE : Hid (decide (65536 < xs.length) = true) := decide_eq_true hb
    go_enter Tryz.func39, Tryz.ntmps39
    go_wp2_with fail
    go_ret2
    rw [HE.out]
    exact ⟨_, rfl, OwnS.nil _ _, Below.refl _ _⟩
  have hb' : (xs.length : Int) ≤ 65536 := by omega
  have HE : Hid (decide (65536 < xs.length) = false) := decide_eq_false hb
  have HR : Hid (∀ x ∈ xs, 0 ≤ x ∧ x ≤ 255) := hr
  have HX : Hid (xs.length ≤ 65536) := by show _ ≤ _; omega
  have HNS : Hid (∀ _ : Unit, ts.length ≤ 1048576 ∧ ∀ i, i < ts.length → (tnth ts i).size ≤ 1048576) := fun _ => ⟨hn, hs⟩
  have H0 : Hid (Rdr w.heap.size (w.alloc (.cells #[.slice a xs.length cap, .bool false] 114)) w.heap.size xs false) := ⟨_, blk_new _ _ _, HU.out.kept (fun k hk => Below.heap_alloc _ _ _ hk)⟩
  have G0 : Hid (Below w.heap.size w (w.alloc (.cells #[.slice a xs.length cap, .bool false] 114))) := (Below.refl _ _).alloc (Nat.le_refl _) _
  clear hr hl hb HU hn hs
  go_enter Tryz.func39, Tryz.ntmps39
  go_wp2_with fail
  refine (HT.out _ w.heap.size w.heap.size H0.out (Nat.le_refl _) (by have := HX.out; omega) HR.out).mono ?_
  rintro e w4 ⟨v4, rfl, o4, r4, g4⟩
  have S0 : w.heap.size < (w.alloc (.cells #[.slice a xs.length cap, .bool false] 114)).heap.size := by rw [size_new]; omega
  have G4 : Below w.heap.size w w4 := ⟨g4.os.trans G0.out.os, g4.tape.trans G0.out.tape, g4.output.trans G0.out.output, Nat.le_trans G0.out.size g4.size, fun k hk => (below_kept g4 (by omega) S0 k hk).trans (G0.out.block k hk)⟩
  have O4 : Hid (OwnS w4 w.heap.size v4 ts) := OwnS.mono o4 (by rw [size_new]; omega)
  obtain ⟨u4, p4, a', cap', rfl, _, _, _⟩ := r4
  obtain ⟨p0, _⟩ := blk_cell p4 0 (x := .slice a' rs.length cap') rfl
  obtain ⟨p1, _⟩ := blk_cell p4 1 (x := .bool sb) rfl
  clear HT g4 H0 G0 S0 p4 o4
  rcases Bool.eq_false_or_eq_true sb with hsb | hsb
  case inl =>
    subst hsb
    go_wp2_with fail
    go_ret2
    rw [HE.out]
    exact ⟨_, rfl, OwnS.nil _ _, G4⟩
  case inr =>
  subst hsb
  rcases rs with _ | ⟨y, ys⟩
  rotate_left
  · have hlen : 0 < (y :: ys).length := Nat.succ_pos _
    have hdec : decide (0 < (y :: ys).length) = true := decide_eq_true hlen
    have HEm : Hid ((y :: ys).isEmpty = false) := rfl
    generalize (y :: ys).length = len at p0 hlen hdec
    go_wp2_with fail
    go_ret2
    rw [HE.out]
    exact ⟨_, rfl, OwnS.nil _ _, G4⟩
  have HEm : Hid (([] : List Int).isEmpty = true) := rfl
  go_wp2_with fail
  refine (listOK_any v4 ts _ O4.out.row (HNS.out ()).1 (HNS.out ()).2).mono ?_
  rintro e w6 ⟨rfl, hw⟩
  rw [hw]
  clear hw
  cases hq : okT ts
  case false =>
    go_wp2_with fail
    go_ret2
    rw [HE.out, hq]
    exact ⟨_, rfl, OwnS.nil _ _, G4⟩
  case true =>
    go_wp2_with fail
    go_ret2
    rw [HE.out, hq]
    exact ⟨_, rfl, O4.out, G4⟩
end Go.Proofs.YtmknnkhehkegcaaGreatDoor.Rl

/- The specification's numbers out of texts. -/
namespace Go.Proofs.YtmknnkhehkegcaaGreatDoor.Of
open Go.RowKit Go.Proofs.YtmknnkhehkegcaaGreatDoor.Sl Go.Proofs.YtmknnkhehkegcaaGreatDoor.By Go.Proofs.YtmknnkhehkegcaaGreatDoor.Ap Go.Proofs.YtmknnkhehkegcaaGreatDoor.Rq Go.Proofs.YtmknnkhehkegcaaGreatDoor.Rr

theorem bys_at (s : ByteArray) (i : Nat) (h : i < s.size) : nth (bys s) i = ((s[i]'h).toNat : Int) := by
  unfold nth bys
  have h' : i < s.data.toList.length := by simpa using h
  rw [List.getD_eq_getElem?_getD, List.getElem?_map, List.getElem?_eq_getElem h']
  rfl

end Go.Proofs.YtmknnkhehkegcaaGreatDoor.Of

/- The specification's ReadRequest. -/
namespace Go.Proofs.YtmknnkhehkegcaaGreatDoor.Of
open Go.RowKit Go.Proofs.YtmknnkhehkegcaaGreatDoor.Sl Go.Proofs.YtmknnkhehkegcaaGreatDoor.By Go.Proofs.YtmknnkhehkegcaaGreatDoor.Ap Go.Proofs.YtmknnkhehkegcaaGreatDoor.Rq Go.Proofs.YtmknnkhehkegcaaGreatDoor.Rr

theorem ext_size (s : ByteArray) (a b : Nat) : (s.extract a b).size = min b s.size - a := by simp [ByteArray.size_extract]
theorem ext_small (s : ByteArray) (a b : Nat) (h : b ≤ a + 4) : (s.extract a b).size ≤ 4 := by rw [ext_size]; omega

/-- The request that a text tells, as the specification reads it. -/
def sC (s : ByteArray) : Int := nth (bys s) 0
def sS (s : ByteArray) : Int := beN (bys (s.extract 1 3))
def sK (s : ByteArray) : Int := nth (bys s) 3
def sL (s : ByteArray) : Int := beN (bys (s.extract 4 6))
def sN (s : ByteArray) : ByteArray := s.extract 7 s.size
theorem wrap_small (n : Nat) (h : n < 2 ^ 8) : IntKind.i64.wrap (n : Int) = (n : Int) := by rw [IntKind.wrap_i64]; omega
theorem fin3 {w : World} {A B : Array Value} (h : A = B) : ((w.alloc (.cells zreq 63)).alloc (.cells A 63)).drew.heap[w.heap.size]? = some (.cells zreq 63 (0, 0)) ∧
    ((w.alloc (.cells zreq 63)).alloc (.cells A 63)).drew.heap[w.heap.size + 1]? = some (.cells B 63 (0, 0)) ∧ Below w.heap.size w ((w.alloc (.cells zreq 63)).alloc (.cells A 63)).drew := by
  subst h
  refine ⟨(Below.heap_alloc _ _ _ (by simp)).trans (blk_new _ _ _), ?_, (((Below.refl _ _).alloc (Nat.le_refl _) _).alloc (by simp) _).drew⟩
  have := blk_new (w.alloc (.cells zreq 63)) A 63
  rw [size_new] at this
  exact this
end Go.Proofs.YtmknnkhehkegcaaGreatDoor.Of

/- The bytes of a text; what impl takes and what the specification reads are one. -/
namespace Go.Proofs.YtmknnkhehkegcaaGreatDoor.Of
open Go.RowKit Go.Proofs.YtmknnkhehkegcaaGreatDoor.Sl Go.Proofs.YtmknnkhehkegcaaGreatDoor.By Go.Proofs.YtmknnkhehkegcaaGreatDoor.Ap Go.Proofs.YtmknnkhehkegcaaGreatDoor.Rq Go.Proofs.YtmknnkhehkegcaaGreatDoor.Rr

theorem bys_str (xs : List Int) (h : ∀ x ∈ xs, 0 ≤ x ∧ x ≤ 255) : bys (strOfNums xs) = xs := by
  unfold bys
  rw [strOfNums_data, List.map_map]
  apply List.ext_getElem?
  intro i
  rw [List.getElem?_map]
  cases hx : xs[i]? with
  | none => rfl
  | some x =>
    have := h x (List.mem_of_getElem? hx)
    simp only [Option.map_some, Function.comp_apply]
    congr 1
    rw [UInt8.toNat_ofNat_of_lt' (by unfold UInt8.size; omega)]
    omega
theorem str_bys (s : ByteArray) : strOfNums (bys s) = s := by
  unfold bys strOfNums
  rw [List.map_map]
  have : ((fun n : Int => UInt8.ofNat n.toNat) ∘ fun b : UInt8 => ((b.toNat : Nat) : Int)) = id := by
    funext b
    simp
  rw [this, List.map_id]
theorem bys_ext (s : ByteArray) (a b : Nat) : bys (s.extract a b) = ((bys s).take b).drop a := by
  unfold bys
  rw [show (s.extract a b).data = s.data.extract a b from by simp [ByteArray.data_extract], Array.toList_extract, List.extract_eq_take_drop, List.map_take, List.map_drop, List.drop_take]
theorem bys_size (s : ByteArray) : s.size = (bys s).length := (bys_length s).symm

theorem tk_yes {n : Nat} {xs : List Int} (h : n ≤ xs.length) : tkB n xs = xs.take n ∧ tkR n xs = xs.drop n ∧ ∀ sh, tkS n xs sh = sh :=
  ⟨if_neg (by omega), if_neg (by omega), fun sh => by unfold tkS; simp; omega⟩
theorem tk_no {n : Nat} {xs : List Int} (h : xs.length < n) (sh : Bool) : tkS n xs sh = true := by unfold tkS; simp [h]
theorem tk_true (n : Nat) (xs : List Int) : tkS n xs true = true := rfl
theorem txt_true (n : Nat) (xs : List Int) : txtS n xs true = true := rfl
theorem be1 {xs : List Int} (h : 0 < xs.length) : beN (xs.take 1) = nth xs 0 := by
  cases xs with
  | nil => cases h
  | cons x xs => simp [beN, nth]
theorem short7 (xs : List Int) (h : xs.length < 7) : rqSh xs false = true := by
  match xs, h with
  | [], _ => rfl
  | [_], _ => rfl
  | [_, _], _ => rfl
  | [_, _, _], _ => rfl
  | [_, _, _, _], _ => rfl
  | [_, _, _, _, _], _ => rfl
  | [_, _, _, _, _, _], _ => rfl
theorem long7 (xs : List Int) (h : 7 ≤ xs.length) (_hr : ∀ x ∈ xs, 0 ≤ x ∧ x ≤ 255) :
    rqC xs = nth xs 0 ∧ rqS xs = beN ((xs.drop 1).take 2) ∧ rqK xs = nth xs 3 ∧ rqL xs = beN ((xs.drop 4).take 2) ∧ rqT xs = xs.drop 6 ∧ rqSh xs false = txtS 1 (xs.drop 6) false := by
  obtain ⟨a1, a2, a3⟩ := tk_yes (n := 1) (xs := xs) (by omega)
  obtain ⟨b1, b2, b3⟩ := tk_yes (n := 2) (xs := xs.drop 1) (by rw [List.length_drop]; omega)
  rw [List.drop_drop] at b2
  obtain ⟨c1, c2, c3⟩ := tk_yes (n := 1) (xs := xs.drop 3) (by rw [List.length_drop]; omega)
  rw [List.drop_drop] at c2
  obtain ⟨d1, d2, d3⟩ := tk_yes (n := 2) (xs := xs.drop 4) (by rw [List.length_drop]; omega)
  rw [List.drop_drop] at d2
  unfold rqC rqS rqK rqL rqSh rqT
  simp only [a1, a2, a3, b1, b2, b3, c1, c2, c3, d1, d2, d3, Nat.reduceAdd]
  refine ⟨be1 (by omega), trivial, ?_, trivial, trivial, trivial⟩
  rw [be1 (by rw [List.length_drop]; omega), nth_drop]
theorem txt1 (ys : List Int) (h : 0 < ys.length) (_hr : ∀ x ∈ ys, 0 ≤ x ∧ x ≤ 255) :
    txtN 1 ys = (nth ys 0).toNat ∧ tkR 1 ys = ys.drop 1 ∧ tkS 1 ys false = false := by
  obtain ⟨a1, a2, a3⟩ := tk_yes (n := 1) (xs := ys) (by omega)
  unfold txtN
  rw [a1, be1 h, a2, a3]
  exact ⟨rfl, rfl, rfl⟩
theorem str_at (xs : List Int) (hr : ∀ x ∈ xs, 0 ≤ x ∧ x ≤ 255) (i : Nat) (h : i < (strOfNums xs).size) : (((strOfNums xs)[i]'h).toNat : Int) = nth xs i := by
  rw [← bys_at _ i h, bys_str xs hr]
theorem eq_req_yes (xs : List Int) (hr : ∀ x ∈ xs, 0 ≤ x ∧ x ≤ 255) (h : 6 < (strOfNums xs).size) (hq : (strOfNums xs).size = 7 + ((strOfNums xs)[6]'h).toNat) :
    rqC xs = sC (strOfNums xs) ∧ rqS xs = sS (strOfNums xs) ∧ rqK xs = sK (strOfNums xs) ∧ rqL xs = sL (strOfNums xs) ∧ rqN xs = sN (strOfNums xs) ∧ rqSh xs false = false ∧ rqRest xs = [] := by
  have h6 := str_at xs hr 6 h
  have hz := strOfNums_size xs
  rw [hz] at h
  have hq' : (xs.length : Int) = 7 + nth xs 6 := by rw [← h6, ← hz]; omega
  have h60 := range_at hr 6
  obtain ⟨a1, a2, a3, a4, a5, a6⟩ := long7 xs (by omega) hr
  have hr6 : ∀ x ∈ xs.drop 6, 0 ≤ x ∧ x ≤ 255 := fun x hx => hr x (List.mem_of_mem_drop hx)
  obtain ⟨b1, b2, b3⟩ := txt1 (xs.drop 6) (by rw [List.length_drop]; omega) hr6
  rw [nth_drop] at b1
  rw [List.drop_drop] at b2
  have hl7 : (xs.drop (6 + 1)).length = (nth xs 6).toNat := by rw [List.length_drop]; omega
  obtain ⟨c1, c2, c3⟩ := tk_yes (n := (nth xs 6).toNat) (xs := xs.drop (6 + 1)) (by omega)
  have e7 : bys (strOfNums xs) = xs := bys_str xs hr
  refine ⟨?_, ?_, ?_, ?_, ?_, ?_, ?_⟩
  · rw [a1]; unfold sC; rw [e7]
  · rw [a2]; unfold sS; rw [bys_ext, e7, List.take_drop]
  · rw [a3]; unfold sK; rw [e7]
  · rw [a4]; unfold sL; rw [bys_ext, e7, List.take_drop]
  · unfold rqN txtB
    rw [a5, b1, b2, c1, List.take_of_length_le (by omega)]
    have := str_bys (sN (strOfNums xs))
    rw [← this]
    unfold sN
    rw [bys_ext, e7, hz, List.take_length]
  · rw [a6]; unfold txtS; rw [b1, b2, b3, c3]
  · unfold rqRest txtR; rw [a5, b1, b2, c2, List.drop_drop]; exact List.drop_eq_nil_of_le (by rw [List.length_drop] at hl7; omega)
theorem eq_req_no (xs : List Int) (hr : ∀ x ∈ xs, 0 ≤ x ∧ x ≤ 255) (hno : ∀ h : 6 < (strOfNums xs).size, (strOfNums xs).size ≠ 7 + ((strOfNums xs)[6]'h).toNat) (b : Bool) :
    (!rqSh xs false && ((rqRest xs).isEmpty && b)) = false := by
  have hz := strOfNums_size xs
  by_cases h7 : 7 ≤ xs.length
  · have h : 6 < (strOfNums xs).size := by omega
    have h6 := str_at xs hr 6 h
    have hq := hno h
    have hq' : (xs.length : Int) ≠ 7 + nth xs 6 := by rw [← h6, ← hz]; omega
    have h60 := range_at hr 6
    obtain ⟨a1, a2, a3, a4, a5, a6⟩ := long7 xs (by omega) hr
    have hr6 : ∀ x ∈ xs.drop 6, 0 ≤ x ∧ x ≤ 255 := fun x hx => hr x (List.mem_of_mem_drop hx)
    obtain ⟨b1, b2, b3⟩ := txt1 (xs.drop 6) (by rw [List.length_drop]; omega) hr6
    rw [nth_drop] at b1
    rw [List.drop_drop] at b2
    rw [a6]
    unfold rqRest txtR txtS
    rw [a5, b1, b2, b3]
    by_cases hlt : (xs.drop (6 + 1)).length < (nth xs 6).toNat
    · rw [tk_no hlt]; rfl
    · obtain ⟨c1, c2, c3⟩ := tk_yes (n := (nth xs 6).toNat) (xs := xs.drop (6 + 1)) (by omega)
      rw [c2, c3, List.drop_drop]
      have : (xs.drop (6 + 1 + (nth xs 6).toNat)).isEmpty = false := by
        rw [List.length_drop] at hlt
        cases he : xs.drop (6 + 1 + (nth xs 6).toNat) with
        | nil =>
          have := congrArg List.length he
          rw [List.length_drop] at this
          simp at this
          omega
        | cons y ys => rfl
      rw [this]
      rfl
  · rw [short7 xs (by omega)]
    rfl

theorem rqN_small (xs : List Int) (hx : xs.length ≤ 1048576) : (rqN xs).size ≤ maxLen := by
  have h1 : ∀ n (ys : List Int), (tkB n ys).length ≤ ys.length := by intro n ys; unfold tkB; split; simp; rw [List.length_take]; omega
  have h2 := h1 (txtN 1 (rqT xs)) (tkR 1 (rqT xs))
  have h3 := tkR_len 1 (rqT xs)
  have h4 : (rqT xs).length ≤ xs.length := Nat.le_trans (tkR_len _ _) (Nat.le_trans (tkR_len _ _) (Nat.le_trans (tkR_len _ _) (tkR_len _ _)))
  unfold rqN txtB maxLen
  rw [strOfNums_size]
  omega
/-- What both answer. -/
def readReq (xs : List Int) : Value := rjV zreq #[.int .i64 (rqC xs), .int .i64 (rqS xs), .int .i64 (rqK xs), .int .i64 (rqL xs), .string (rqN xs)] (decide (65536 < xs.length)) (!rqSh xs false && ((rqRest xs).isEmpty && reqB (rqC xs) (rqS xs) (rqK xs) (rqL xs) (rqN xs)))
theorem readReq_form (xs : List Int) : ∃ (c st k l : Int) (n : ByteArray) (code : Int), readReq xs = .tuple #[.agg #[.int .i64 c, .int .i64 st, .int .i64 k, .int .i64 l, .string n], .int .i64 code] := by
  unfold readReq rjV
  split
  · exact ⟨0, 0, 0, 0, ⟨#[]⟩, 2, rfl⟩
  · split
    · exact ⟨_, _, _, _, _, 0, rfl⟩
    · exact ⟨0, 0, 0, 0, ⟨#[]⟩, 3, rfl⟩

end Go.Proofs.YtmknnkhehkegcaaGreatDoor.Of

/- A list is read: the specification. -/
namespace Go.Proofs.YtmknnkhehkegcaaGreatDoor.Rl
open Go.RowKit Go.Proofs.YtmknnkhehkegcaaGreatDoor.Sl Go.Proofs.YtmknnkhehkegcaaGreatDoor.By Go.Proofs.YtmknnkhehkegcaaGreatDoor.Ap Go.Proofs.YtmknnkhehkegcaaGreatDoor.Rq Go.Proofs.YtmknnkhehkegcaaGreatDoor.Rr Go.Proofs.YtmknnkhehkegcaaGreatDoor.Ty Go.Proofs.YtmknnkhehkegcaaGreatDoor.Tl Go.Proofs.YtmknnkhehkegcaaGreatDoor.Of

theorem lS_true (ys : List Int) (sh : Bool) {k n : Nat} (hk : k ≤ n) (h : lS ys sh k = true) : lS ys sh n = true := by
  induction n with
  | zero => obtain rfl : k = 0 := by omega
            exact h
  | succ n ih =>
    by_cases e : k = n + 1
    · subst e; exact h
    · have := ih (by omega)
      unfold lS
      rw [this]
      exact txt_true 2 _
theorem lT_at (ys : List Int) : ∀ (n j : Nat), j < n → tnth (lT ys n) j = txtB 2 (lR ys j)
  | 0, j, h => absurd h (by omega)
  | n + 1, j, h => by
    unfold tnth
    rw [List.getD_eq_getElem?_getD]
    unfold lT
    by_cases e : j < n
    · rw [List.getElem?_append_left (by rw [lT_length]; exact e)]
      have := lT_at ys n j e
      unfold tnth at this
      rw [List.getD_eq_getElem?_getD] at this
      exact this
    · obtain rfl : j = n := by omega
      rw [List.getElem?_append_right (by rw [lT_length]; exact Nat.le_refl _), lT_length, Nat.sub_self]
      rfl
/-- Whether bytes tell a list. -/
def rdOk (xs : List Int) : Bool := !lS (tkR 1 xs) (tkS 1 xs false) (tlN xs) && ((lR (tkR 1 xs) (tlN xs)).isEmpty && okT (lT (tkR 1 xs) (tlN xs)))
def rdOut (xs : List Int) : List ByteArray := if rdOk xs = true then lT (tkR 1 xs) (tlN xs) else []
theorem ok_nil : rdOk [] = false := rfl
theorem ok_many (xs : List Int) (h : 100 < tlN xs) : rdOk xs = false := by
  unfold rdOk okT
  rw [lT_length, decide_eq_false (by omega)]
  simp
theorem ok_short (xs : List Int) {k : Nat} (hk : k ≤ tlN xs) (h : lS (tkR 1 xs) (tkS 1 xs false) k = true) : rdOk xs = false := by
  unfold rdOk
  rw [lS_true _ _ hk h]
  rfl
theorem ok_large (xs : List Int) {k : Nat} (hk : k < tlN xs) (h : 20000 < (txtB 2 (lR (tkR 1 xs) k)).size) : rdOk xs = false := by
  unfold rdOk
  rw [okT_bad (k := k) (by rw [lT_length]; exact hk) (by rw [lT_at _ _ _ hk]; exact h)]
  simp
theorem ok_left (xs : List Int) (h : (lR (tkR 1 xs) (tlN xs)).isEmpty = false) : rdOk xs = false := by
  unfold rdOk
  rw [h]
  simp
theorem ok_good (xs : List Int) (h1 : lS (tkR 1 xs) (tkS 1 xs false) (tlN xs) = false) (h2 : lR (tkR 1 xs) (tlN xs) = []) (h3 : tlN xs ≤ 100) (h4 : ∀ j, j < tlN xs → (txtB 2 (lR (tkR 1 xs) j)).size ≤ 20000) : rdOk xs = true := by
  unfold rdOk
  rw [h1, h2, okT_good (fun j hj => by rw [lT_length] at hj; rw [lT_at _ _ _ hj]; exact h4 j hj), lT_length, decide_eq_true h3]
  rfl
/-- A text that is taken at a place. -/
theorem at_no1 (xs : List Int) (at_ : Nat) (h : xs.length < at_ + 2) (sh : Bool) : txtS 2 (xs.drop at_) sh = true := by
  unfold txtS
  rw [tk_no (n := 2) (xs := xs.drop at_) (by rw [List.length_drop]; omega)]
  rfl
theorem at_num (xs : List Int) (at_ : Nat) (h : at_ + 2 ≤ xs.length) : tkB 2 (xs.drop at_) = (xs.take (at_ + 2)).drop at_ ∧ tkR 2 (xs.drop at_) = xs.drop (at_ + 2) ∧ ∀ sh, tkS 2 (xs.drop at_) sh = sh := by
  obtain ⟨a1, a2, a3⟩ := tk_yes (n := 2) (xs := xs.drop at_) (by rw [List.length_drop]; omega)
  rw [List.drop_drop] at a2
  exact ⟨by rw [a1, List.take_drop], a2, a3⟩
theorem at_no2 (xs : List Int) (at_ : Nat) (h : at_ + 2 ≤ xs.length) (h2 : xs.length < at_ + 2 + txtN 2 (xs.drop at_)) (sh : Bool) : txtS 2 (xs.drop at_) sh = true := by
  obtain ⟨a1, a2, a3⟩ := at_num xs at_ h
  unfold txtS
  rw [a2, tk_no (by rw [List.length_drop]; omega)]
theorem at_yes (xs : List Int) (at_ : Nat) (h : at_ + 2 ≤ xs.length) (h2 : at_ + 2 + txtN 2 (xs.drop at_) ≤ xs.length) :
    txtS 2 (xs.drop at_) false = false ∧ txtR 2 (xs.drop at_) = xs.drop (at_ + 2 + txtN 2 (xs.drop at_)) ∧ txtB 2 (xs.drop at_) = strOfNums ((xs.take (at_ + 2 + txtN 2 (xs.drop at_))).drop (at_ + 2)) ∧ (txtB 2 (xs.drop at_)).size = txtN 2 (xs.drop at_) := by
  obtain ⟨a1, a2, a3⟩ := at_num xs at_ h
  generalize hm : txtN 2 (xs.drop at_) = m at h2 ⊢
  obtain ⟨b1, b2, b3⟩ := tk_yes (n := m) (xs := xs.drop (at_ + 2)) (by rw [List.length_drop]; omega)
  unfold txtS txtR txtB
  rw [hm, a2, a3, b1, b2, b3, List.drop_drop, List.take_drop]
  refine ⟨rfl, rfl, rfl, ?_⟩
  rw [strOfNums_size, List.length_drop, List.length_take]
  omega
theorem own_empty (w : World) (B : Nat) (hB : B ≤ w.heap.size) : OwnS (w.alloc (.cells #[] 9)) B (.slice (some ⟨w.heap.size, 0, none⟩) 0 0) [] :=
  World.ownsRow_made w #[] 0 hB (by decide) (by decide)

/-- 'append(list, t)' of one text in a plain region, where nothing old is written. -/
theorem list_below {P : Program} {ops : Array Oper} {rest : List Oper} {o : Oper} {a : Act} {Q : Exit → Act → World → Prop} (hgd : o.guard = none) (s x : Operand) (t : TypeId)
    (ho : o.op = .call { callee := .builtin .append, args := #[s, x], argTypes := #[t, t] }) (i : TypeInfo) (ht : P.underlying t = some (.slice 9)) (hi : P.info? 9 = some i) (hz : i.zero = some (.string ⟨#[]⟩))
    (hsize : i.size = 1) (hby : i.bytes = 16) (B : Nat) (w0 W : World) (v : Value) (ts : List ByteArray) (z : ByteArray) (hs : a.eval s = v) (hown : OwnS W B v ts) (hg0 : Below B w0 W) (hB : w0.heap.size = B)
    (hx : a.eval x = .slice (some ⟨W.heap.size, 0, none⟩) 1 1) (hlen : ts.length ≤ 1000000)
    (h : ∀ v' w', OwnS w' B v' (ts ++ [z]) → Below B w0 w' → wpList P ops Q rest (a.put o.dst v') w') : wpList P ops Q (o :: rest) a (W.alloc (.cells #[.string z] 9)) := by
  refine list_text hgd s x t ho i ht hi hz hsize hby B B w0 W v ts z hs hown ⟨hg0.os, hg0.tape, hg0.output, hg0.size, fun k hk _ => hg0.block k (by omega)⟩ hB hx hlen ?_
  intro v' w' h1 h2 _
  exact h v' w' h1 ⟨h2.os, h2.tape, h2.output, h2.size, fun k hk => h2.block k (by omega) (by simp; omega)⟩

end Go.Proofs.YtmknnkhehkegcaaGreatDoor.Rl
