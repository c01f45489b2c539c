/- A list is read: impl. -/
import Derived.Test.YtddmdnljfnimbaaGreatDoorTl
import Derived.Test.YtddmdnljfnimbaaGreatDoorRdReq
import Derived.Deep.CutRange
import Derived.Deep.DeepCutAuto
namespace Go.Proofs.YtddmdnljfnimbaaGreatDoor.Rl
open Go.RowKit Go.Proofs.YtddmdnljfnimbaaGreatDoor.Sl Go.Proofs.YtddmdnljfnimbaaGreatDoor.By Go.Proofs.YtddmdnljfnimbaaGreatDoor.Ap Go.Proofs.YtddmdnljfnimbaaGreatDoor.Rq Go.Proofs.YtddmdnljfnimbaaGreatDoor.Rr Go.Proofs.YtddmdnljfnimbaaGreatDoor.Ty Go.Proofs.YtddmdnljfnimbaaGreatDoor.Tl

/-- What a reader of lists answers. -/
def rlC (long ok : Bool) : Int := if long then 2 else if ok then 0 else 3
def rlO (long ok : Bool) (ts : List ByteArray) : List ByteArray := if rlC long ok = 0 then ts else []
theorem OwnS.below {w w' : World} {B : Nat} {v : Value} {ts : List ByteArray} (h : OwnS w B v ts) (hb : Below w.heap.size w w') : OwnS w' B v ts := by
  obtain ⟨hl, h⟩ := h
  refine ⟨hl, ?_⟩
  rcases h with h | ⟨g, cap, cur, hv, hB, hgb, h⟩
  · exact .inl h
  · exact .inr ⟨g, cap, cur, hv, hB, (hb.block g (Array.getElem?_eq_some_iff.1 hgb).1).trans hgb, h⟩
theorem OwnS.mono {w : World} {B B' : Nat} {v : Value} {ts : List ByteArray} (h : OwnS w B v ts) (hb : B' ≤ B) : OwnS w B' v ts := by
  obtain ⟨hl, h⟩ := h
  refine ⟨hl, ?_⟩
  rcases h with h | ⟨g, cap, cur, hv, hB, h⟩
  · exact .inl h
  · exact .inr ⟨g, cap, cur, hv, by omega, h⟩
theorem OwnS.nil (w : World) (B : Nat) : OwnS w B (.slice none 0 0) [] := World.ownsRow_nil _ _ _ _

set_option maxHeartbeats 800000 in
theorem readJustList_gen (v : Value) (xs : List Int) (w : World) (h : RowB w v xs) (hl : xs.length ≤ 1048576) (ts : List ByteArray) (rs : List Int) (sb : Bool) (hn : ts.length ≤ 1048576) (hs : ∀ i, i < ts.length → (tnth ts i).size ≤ 1048576)
    (htake : ∀ (W : World) (p B : Nat), Rdr B W p xs false → B ≤ p → xs.length ≤ 70000 → (∀ x ∈ xs, 0 ≤ x ∧ x ≤ 255) → Calls Tryz.prog 78 #[.pointer (some ⟨p, 0, none⟩)] W fun e w' => ∃ v', e = .returned v' ∧ OwnS w' W.heap.size v' ts ∧ Rdr B w' p rs sb ∧ W.grownBy w' (some p)) :
    Calls Tryz.prog 77 #[v, .func (Fn.func 78) #[] #[], .func (Fn.func 79) #[] #[]] w fun e w' => ∃ v', e = .returned (.tuple #[v', .int .i64 (rlC (decide (65536 < xs.length)) (!sb && (rs.isEmpty && okT ts)))]) ∧ OwnS w' w.heap.size v' (rlO (decide (65536 < xs.length)) (!sb && (rs.isEmpty && okT ts)) ts) ∧ Below w.heap.size w w' := by
  have HT : Hid (_) := htake
  clear htake
  have HU : Hid (RowU w.heap.size w v xs) := RowU.of h
  obtain ⟨a, cap, rfl, _, hr⟩ := h
  by_cases hb : 65536 < xs.length
  · have hb' : (65536 : Int) < (xs.length : Int) := by omega
    have HE : Hid (decide (65536 < xs.length) = true) := decide_eq_true hb
    go_enter Tryz.func77, Tryz.ntmps77
    go_wp2_with fail
    go_ret2
    rw [HE.out]
    exact ⟨_, rfl, OwnS.nil _ _, Below.refl _ _⟩
  have hb' : (xs.length : Int) ≤ 65536 := by omega
  have HE : Hid (decide (65536 < xs.length) = false) := decide_eq_false hb
  have HR : Hid (∀ x ∈ xs, 0 ≤ x ∧ x ≤ 255) := hr
  have HX : Hid (xs.length ≤ 65536) := by show _ ≤ _; omega
  have HNS : Hid (∀ _ : Unit, ts.length ≤ 1048576 ∧ ∀ i, i < ts.length → (tnth ts i).size ≤ 1048576) := fun _ => ⟨hn, hs⟩
  have H0 : Hid (Rdr w.heap.size (w.alloc (.cells #[.slice a xs.length cap, .bool false] 147)) w.heap.size xs false) := ⟨_, blk_new _ _ _, HU.out.kept (fun k hk => Below.heap_alloc _ _ _ hk)⟩
  have G0 : Hid (Below w.heap.size w (w.alloc (.cells #[.slice a xs.length cap, .bool false] 147))) := (Below.refl _ _).alloc (Nat.le_refl _) _
  clear hr hl hb HU hn hs
  go_enter Tryz.func77, Tryz.ntmps77
  go_wp2_with fail
  refine (HT.out _ w.heap.size w.heap.size H0.out (Nat.le_refl _) (by have := HX.out; omega) HR.out).mono ?_
  rintro e w4 ⟨v4, rfl, o4, r4, g4⟩
  have S0 : w.heap.size < (w.alloc (.cells #[.slice a xs.length cap, .bool false] 147)).heap.size := by rw [size_new]; omega
  have G4 : Below w.heap.size w w4 := ⟨g4.os.trans G0.out.os, g4.tape.trans G0.out.tape, g4.output.trans G0.out.output, Nat.le_trans G0.out.size g4.size, fun k hk => (below_kept g4 (by omega) S0 k hk).trans (G0.out.block k hk)⟩
  have O4 : Hid (OwnS w4 w.heap.size v4 ts) := OwnS.mono o4 (by rw [size_new]; omega)
  obtain ⟨u4, p4, a', cap', rfl, _, _, _⟩ := r4
  obtain ⟨p0, _⟩ := blk_cell p4 0 (x := .slice a' rs.length cap') rfl
  obtain ⟨p1, _⟩ := blk_cell p4 1 (x := .bool sb) rfl
  clear HT g4 H0 G0 S0 p4 o4
  rcases Bool.eq_false_or_eq_true sb with hsb | hsb
  case inl =>
    subst hsb
    go_wp2_with fail
    go_ret2
    rw [HE.out]
    exact ⟨_, rfl, OwnS.nil _ _, G4⟩
  case inr =>
  subst hsb
  rcases rs with _ | ⟨y, ys⟩
  rotate_left
  · have hlen : 0 < (y :: ys).length := Nat.succ_pos _
    have hdec : decide (0 < (y :: ys).length) = true := decide_eq_true hlen
    have HEm : Hid ((y :: ys).isEmpty = false) := rfl
    generalize (y :: ys).length = len at p0 hlen hdec
    go_wp2_with fail
    go_ret2
    rw [HE.out]
    exact ⟨_, rfl, OwnS.nil _ _, G4⟩
  have HEm : Hid (([] : List Int).isEmpty = true) := rfl
  go_wp2_with fail
  refine (listOK_any v4 ts _ O4.out.row (HNS.out ()).1 (HNS.out ()).2).mono ?_
  rintro e w6 ⟨rfl, hw⟩
  rw [hw]
  clear hw
  cases hq : okT ts
  case false =>
    go_wp2_with fail
    go_ret2
    rw [HE.out, hq]
    exact ⟨_, rfl, OwnS.nil _ _, G4⟩
  case true =>
    go_wp2_with fail
    go_ret2
    rw [HE.out, hq]
    exact ⟨_, rfl, O4.out, G4⟩
end Go.Proofs.YtddmdnljfnimbaaGreatDoor.Rl
