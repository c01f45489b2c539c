/- Texts put together: Rl, Cb, Cb2. -/
import Derived.Test.YtondmbeccpekiaaGreatDoorH31
import Derived.Test.YtondmbeccpekiaaGreatDoorH24
import Derived.Deep.CutRange
import Derived.Deep.DeepCutAuto
import Derived.Test.YtondmbeccpekiaaGreatDoorH1
import Derived.Test.YtondmbeccpekiaaGreatDoorH8
import Derived.Maps.AppendAt
/- A list is read: impl. -/
namespace Go.Proofs.YtondmbeccpekiaaGreatDoor.Rl
open Go.RowKit Go.Proofs.YtondmbeccpekiaaGreatDoor.Sl Go.Proofs.YtondmbeccpekiaaGreatDoor.By Go.Proofs.YtondmbeccpekiaaGreatDoor.Ap Go.Proofs.YtondmbeccpekiaaGreatDoor.Rq Go.Proofs.YtondmbeccpekiaaGreatDoor.Rr Go.Proofs.YtondmbeccpekiaaGreatDoor.Ty Go.Proofs.YtondmbeccpekiaaGreatDoor.Tl

def rlC (long ok : Bool) : Int := if long then 2 else if ok then 0 else 3
def rlO (long ok : Bool) (ts : List ByteArray) : List ByteArray := if rlC long ok = 0 then ts else []
theorem OwnS.below {w w' : World} {B : Nat} {v : Value} {ts : List ByteArray} (h : OwnS w B v ts) (hb : Below w.heap.size w w') : OwnS w' B v ts := by
  obtain ⟨hl, h⟩ := h
  refine ⟨hl, ?_⟩
  rcases h with h | ⟨g, cap, cur, hv, hB, hgb, h⟩
  · exact .inl h
  · exact .inr ⟨g, cap, cur, hv, hB, (hb.block g (Array.getElem?_eq_some_iff.1 hgb).1).trans hgb, h⟩
theorem OwnS.mono {w : World} {B B' : Nat} {v : Value} {ts : List ByteArray} (h : OwnS w B v ts) (hb : B' ≤ B) : OwnS w B' v ts := by
  obtain ⟨hl, h⟩ := h
  refine ⟨hl, ?_⟩
  rcases h with h | ⟨g, cap, cur, hv, hB, h⟩
  · exact .inl h
  · exact .inr ⟨g, cap, cur, hv, by omega, h⟩
theorem OwnS.nil (w : World) (B : Nat) : OwnS w B (.slice none 0 0) [] := World.ownsRow_nil _ _ _ _

set_option maxHeartbeats 800000 in
theorem readJustList_gen (v : Value) (xs : List Int) (w : World) (h : RowB w v xs) (hl : xs.length ≤ 1048576) (ts : List ByteArray) (rs : List Int) (sb : Bool) (hn : ts.length ≤ 1048576) (hs : ∀ i, i < ts.length → (tnth ts i).size ≤ 1048576)
    (htake : ∀ (W : World) (p B : Nat), Rdr B W p xs false → B ≤ p → xs.length ≤ 70000 → (∀ x ∈ xs, 0 ≤ x ∧ x ≤ 255) → Calls Tryz.prog 184 #[.pointer (some ⟨p, 0, none⟩)] W fun e w' => ∃ v', e = .returned v' ∧ OwnS w' W.heap.size v' ts ∧ Rdr B w' p rs sb ∧ W.grownBy w' (some p)) :
    Calls Tryz.prog 183 #[v, .func (Fn.func 184) #[] #[], .func (Fn.func 185) #[] #[]] w fun e w' => ∃ v', e = .returned (.tuple #[v', .int .i64 (rlC (decide (65536 < xs.length)) (!sb && (rs.isEmpty && okT ts)))]) ∧ OwnS w' w.heap.size v' (rlO (decide (65536 < xs.length)) (!sb && (rs.isEmpty && okT ts)) ts) ∧ Below w.heap.size w w' := by
  have HT : Hid (_) := htake
  clear htake
  have HU : Hid (RowU w.heap.size w v xs) := RowU.of h
  obtain ⟨a, cap, rfl, _, hr⟩ := h
  by_cases hb : 65536 < xs.length
  · have hb' : (65536 : Int) < (xs.length : Int) := by omega
    have HE : Hid (decide (65536 < xs.length) = true) := decide_eq_true hb
    go_enter Tryz.func183, Tryz.ntmps183
    go_wp2_with fail
    go_ret2
    rw [HE.out]
    exact ⟨_, rfl, OwnS.nil _ _, Below.refl _ _⟩
  have hb' : (xs.length : Int) ≤ 65536 := by omega
  have HE : Hid (decide (65536 < xs.length) = false) := decide_eq_false hb
  have HR : Hid (∀ x ∈ xs, 0 ≤ x ∧ x ≤ 255) := hr
  have HX : Hid (xs.length ≤ 65536) := by show _ ≤ _; omega
  have HNS : Hid (∀ _ : Unit, ts.length ≤ 1048576 ∧ ∀ i, i < ts.length → (tnth ts i).size ≤ 1048576) := fun _ => ⟨hn, hs⟩
  have H0 : Hid (Rdr w.heap.size (w.alloc (.cells #[.slice a xs.length cap, .bool false] 240)) w.heap.size xs false) := ⟨_, blk_new _ _ _, HU.out.kept (fun k hk => Below.heap_alloc _ _ _ hk)⟩
  have G0 : Hid (Below w.heap.size w (w.alloc (.cells #[.slice a xs.length cap, .bool false] 240))) := (Below.refl _ _).alloc (Nat.le_refl _) _
  clear hr hl hb HU hn hs
  go_enter Tryz.func183, Tryz.ntmps183
  go_wp2_with fail
  refine (HT.out _ w.heap.size w.heap.size H0.out (Nat.le_refl _) (by have := HX.out; omega) HR.out).mono ?_
  rintro e w4 ⟨v4, rfl, o4, r4, g4⟩
  have S0 : w.heap.size < (w.alloc (.cells #[.slice a xs.length cap, .bool false] 240)).heap.size := by rw [size_new]; omega
  have G4 : Below w.heap.size w w4 := ⟨g4.os.trans G0.out.os, g4.tape.trans G0.out.tape, g4.output.trans G0.out.output, Nat.le_trans G0.out.size g4.size, fun k hk => (below_kept g4 (by omega) S0 k hk).trans (G0.out.block k hk)⟩
  have O4 : Hid (OwnS w4 w.heap.size v4 ts) := OwnS.mono o4 (by rw [size_new]; omega)
  obtain ⟨u4, p4, a', cap', rfl, _, _, _⟩ := r4
  obtain ⟨p0, _⟩ := blk_cell p4 0 (x := .slice a' rs.length cap') rfl
  obtain ⟨p1, _⟩ := blk_cell p4 1 (x := .bool sb) rfl
  clear HT g4 H0 G0 S0 p4 o4
  rcases Bool.eq_false_or_eq_true sb with hsb | hsb
  case inl =>
    subst hsb
    go_wp2_with fail
    go_ret2
    rw [HE.out]
    exact ⟨_, rfl, OwnS.nil _ _, G4⟩
  case inr =>
  subst hsb
  rcases rs with _ | ⟨y, ys⟩
  rotate_left
  · have hlen : 0 < (y :: ys).length := Nat.succ_pos _
    have hdec : decide (0 < (y :: ys).length) = true := decide_eq_true hlen
    have HEm : Hid ((y :: ys).isEmpty = false) := rfl
    generalize (y :: ys).length = len at p0 hlen hdec
    go_wp2_with fail
    go_ret2
    rw [HE.out]
    exact ⟨_, rfl, OwnS.nil _ _, G4⟩
  have HEm : Hid (([] : List Int).isEmpty = true) := rfl
  go_wp2_with fail
  refine (listOK_any v4 ts _ O4.out.row (HNS.out ()).1 (HNS.out ()).2).mono ?_
  rintro e w6 ⟨rfl, hw⟩
  rw [hw]
  clear hw
  cases hq : okT ts
  case false =>
    go_wp2_with fail
    go_ret2
    rw [HE.out, hq]
    exact ⟨_, rfl, OwnS.nil _ _, G4⟩
  case true =>
    go_wp2_with fail
    go_ret2
    rw [HE.out, hq]
    exact ⟨_, rfl, O4.out, G4⟩
end Go.Proofs.YtondmbeccpekiaaGreatDoor.Rl

/- Certificates: their form, their bytes: the program. -/
namespace Go.Proofs.YtondmbeccpekiaaGreatDoor.Cb
open Go.RowKit Go.Proofs.YtondmbeccpekiaaGreatDoor.Sl Go.Proofs.YtondmbeccpekiaaGreatDoor.By Go.Proofs.YtondmbeccpekiaaGreatDoor.Ap Go.Proofs.YtondmbeccpekiaaGreatDoor.Rq Go.Proofs.YtondmbeccpekiaaGreatDoor.Ms Go.Proofs.YtondmbeccpekiaaGreatDoor.Mp Go.Proofs.YtondmbeccpekiaaGreatDoor.Rp Go.Proofs.YtondmbeccpekiaaGreatDoor.Lb Go.Proofs.YtondmbeccpekiaaGreatDoor.Gm
open Go.Proofs.YtondmbeccpekiaaGreatDoor.Ty (RowT tnth)
open Go.Proofs.YtondmbeccpekiaaGreatDoor.Tl (OwnS)
open Go.Proofs.YtondmbeccpekiaaGreatDoor.Rg (RowG RowG.slice RowG.at lt_at mem_at blk_cell bel_new)

def crtV (bd : ByteArray) (vr : Value) : Value := .agg #[.string bd, vr]
def mB (x : Mg) : Bool := msgB x.kd x.vw x.sq x.fr x.dg x.bd x.mc
def mOK (x : Mg) : Bool := (x.kd == 2) && mB x
def cfB (ms : List Mg) : Bool := decide (ms.length ≤ 7) && ms.all mOK
theorem ret_b {a b : Bool} (h : a = b) : Ending.returned (.bool a) = .returned (.bool b) := by rw [h]
theorem all_step {ms : List Mg} {k : Nat} {x : Mg} (h : ms[k]? = some x) : (ms.drop k).all mOK = (mOK x && (ms.drop (k + 1)).all mOK) := by
  obtain ⟨hk, rfl⟩ := List.getElem?_eq_some_iff.1 h
  rw [List.drop_eq_getElem_cons hk, List.all_cons]
theorem all_end {ms : List Mg} : (ms.drop ms.length).all mOK = true := by rw [List.drop_length]; rfl
theorem cf_all {ms : List Mg} (h : cfB ms = true) : ms.length ≤ 7 ∧ ∀ x ∈ ms, mOK x = true := by
  unfold cfB at h
  rw [Bool.and_eq_true, decide_eq_true_eq, List.all_eq_true] at h
  exact h
set_option maxRecDepth 100000 in
set_option maxHeartbeats 800000 in
theorem certFormed_any (bd : ByteArray) (vr : Value) (ms : List Mg) (w : World) (h : Row w vr ms) (hl : ms.length ≤ 1048576) :
    Calls Tryz.prog 196 #[crtV bd vr] w fun e w' => e = .returned (.bool (cfB ms)) ∧ Below w.heap.size w w' := by
  have HR : Hid (Row w vr ms) := h
  obtain ⟨a, cap, rfl⟩ := RowG.slice h
  clear h
  unfold crtV
  have HB : Hid (Below w.heap.size w (w.alloc (.cells #[.string bd, .slice a ms.length cap] 87))) := bel_new _ _
  have HE : Hid (cfB ms = (decide (ms.length ≤ 7) && ms.all mOK)) := rfl
  by_cases h7 : (7 : Int) < (ms.length : Int)
  · rw [decide_eq_false (by omega : ¬ ms.length ≤ 7)] at HE
    go_enter Tryz.func196, Tryz.ntmps196
    go_wp2_with fail
    go_ret
    exact ⟨ret_b (by rw [HE.out]; rfl), HB.out⟩
  rw [decide_eq_true (by omega : ms.length ≤ 7), Bool.true_and] at HE
  go_enter Tryz.func196, Tryz.ntmps196
  go_wp2_with fail
  go_loopw [12] (fun i wr => ∃ k : Nat, k ≤ ms.length ∧ i = .int .i64 k ∧ Hid (ms.all mOK = (ms.drop k).all mOK ∧ Below w.heap.size w wr)) (fun i _ => ms.length - (intOf i).toNat)
  case atStart => exact ⟨0, by omega, rfl, ⟨by rw [List.drop_zero], HB.out⟩⟩
  case round =>
    obtain ⟨k, hk, rfl, HZ⟩ := hrel
    by_cases hlt : k < ms.length
    · obtain ⟨x, hx⟩ := Rg.get_at hlt
      obtain ⟨b, off, rfl, hbl, c0, c1, c2, c3, c4, c5, c6⟩ := RowG.at (HR.out.below HZ.out.2) rfl hx
      have HX : Hid (ms.all mOK = (mOK x && (ms.drop (k + 1)).all mOK)) := HZ.out.1.trans (all_step hx)
      have HBW : Hid (Below w.heap.size w (wr.alloc (.cells #[.int .i64 x.kd, .int .i64 x.vw, .int .i64 x.sq, .int .i64 x.fr, .string x.dg, .string x.bd, .string x.mc] 59))) := HZ.out.2.alloc HZ.out.2.size _
      have HMO : Hid (Calls Tryz.prog 74 #[.agg #[.int .i64 x.kd, .int .i64 x.vw, .int .i64 x.sq, .int .i64 x.fr, .string x.dg, .string x.bd, .string x.mc]] (wr.alloc (.cells #[.int .i64 x.kd, .int .i64 x.vw, .int .i64 x.sq, .int .i64 x.fr, .string x.dg, .string x.bd, .string x.mc] 59)) fun e w' => e = .returned (.bool (mB x)) ∧ Below (wr.alloc (.cells #[.int .i64 x.kd, .int .i64 x.vw, .int .i64 x.sq, .int .i64 x.fr, .string x.dg, .string x.bd, .string x.mc] 59)).heap.size (wr.alloc (.cells #[.int .i64 x.kd, .int .i64 x.vw, .int .i64 x.sq, .int .i64 x.fr, .string x.dg, .string x.bd, .string x.mc] 59)) w') := implMessageOK_any x.kd x.vw x.sq x.fr x.dg x.bd x.mc _
      have HOE : Hid (mOK x = ((x.kd == 2) && mB x)) := rfl
      clear hx HZ
      by_cases hkd : x.kd = 2
      · have hk1 : (x.kd != 2) = false := by simp [hkd]
        have hk2 : (x.kd == 2) = true := by simp [hkd]
        rw [hk2, Bool.true_and] at HOE
        clear hkd
        cases hm : mB x with
        | false =>
          rw [hm] at HMO HOE
          have HF : Hid (ms.all mOK = false) := by show _ = _; rw [HX.out, HOE.out]; rfl
          go_wp2_with fail
          refine HMO.out.mono ?_
          rintro e w2 ⟨rfl, b2⟩
          have B2 : Hid (Below w.heap.size w w2) := HBW.out.trans (b2.mono HBW.out.size)
          clear b2
          go_wp2_with fail
          go_ret
          exact ⟨ret_b (by rw [HE.out, HF.out]), B2.out⟩
        | true =>
          rw [hm] at HMO HOE
          have HF : Hid (ms.all mOK = (ms.drop (k + 1)).all mOK) := by show _ = _; rw [HX.out, HOE.out]; rfl
          go_wp2_with fail
          refine HMO.out.mono ?_
          rintro e w2 ⟨rfl, b2⟩
          have B2 : Hid (Below w.heap.size w w2) := HBW.out.trans (b2.mono HBW.out.size)
          clear b2
          go_wp2_with fail
          exact ⟨⟨k + 1, by omega, by go_num, ⟨HF.out, B2.out⟩⟩, by simp [intOf]; omega⟩
      · have hk1 : (x.kd != 2) = true := by simp [hkd]
        have hk2 : (x.kd == 2) = false := by simp [hkd]
        rw [hk2, Bool.false_and] at HOE
        have HF : Hid (ms.all mOK = false) := by show _ = _; rw [HX.out, HOE.out]; rfl
        clear hkd
        go_wp2_with fail
        go_ret
        exact ⟨ret_b (by rw [HE.out, HF.out]), HBW.out⟩
    · obtain rfl : k = ms.length := by omega
      have HF : Hid (ms.all mOK = true) := HZ.out.1.trans all_end
      go_wp2_with fail
      go_ret
      exact ⟨ret_b (by rw [HE.out, HF.out]), HZ.out.2⟩
end Go.Proofs.YtondmbeccpekiaaGreatDoor.Cb

/- Certificates' bytes, of the program and of the specification. -/
namespace Go.Proofs.YtondmbeccpekiaaGreatDoor.Cb
open Go.RowKit Go.Proofs.YtondmbeccpekiaaGreatDoor.Sl Go.Proofs.YtondmbeccpekiaaGreatDoor.By Go.Proofs.YtondmbeccpekiaaGreatDoor.Ap Go.Proofs.YtondmbeccpekiaaGreatDoor.Rq Go.Proofs.YtondmbeccpekiaaGreatDoor.Ms Go.Proofs.YtondmbeccpekiaaGreatDoor.Mp Go.Proofs.YtondmbeccpekiaaGreatDoor.Rp Go.Proofs.YtondmbeccpekiaaGreatDoor.Lb Go.Proofs.YtondmbeccpekiaaGreatDoor.Gm
open Go.Proofs.YtondmbeccpekiaaGreatDoor.Ty (RowT tnth)
open Go.Proofs.YtondmbeccpekiaaGreatDoor.Tl (OwnS)
open Go.Proofs.YtondmbeccpekiaaGreatDoor.Rg (RowG RowG.slice RowG.at lt_at mem_at blk_cell bel_new)

end Go.Proofs.YtondmbeccpekiaaGreatDoor.Cb
