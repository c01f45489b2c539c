/- The root over all keys: ChainRoot, of both. -/
import Derived.Test.YtimmeclclilpdaaGreatDoorLv
namespace Go.Proofs.YtimmeclclilpdaaGreatDoor.Cr
open Go.RowKit Go.Proofs.YtimmeclclilpdaaGreatDoor.Sl Go.Proofs.YtimmeclclilpdaaGreatDoor.By Go.Proofs.YtimmeclclilpdaaGreatDoor.Ap Go.Proofs.YtimmeclclilpdaaGreatDoor.Tx Go.Proofs.YtimmeclclilpdaaGreatDoor.Sh Go.Proofs.YtimmeclclilpdaaGreatDoor.Ho Go.Proofs.YtimmeclclilpdaaGreatDoor.Se Go.Proofs.YtimmeclclilpdaaGreatDoor.Ka Go.Proofs.YtimmeclclilpdaaGreatDoor.Sx Go.Proofs.YtimmeclclilpdaaGreatDoor.Hf Go.Proofs.YtimmeclclilpdaaGreatDoor.Sa Go.Proofs.YtimmeclclilpdaaGreatDoor.Kx Go.Proofs.YtimmeclclilpdaaGreatDoor.Lv

/-- The root of a row of 2 to the n texts. -/
def rootN : Nat → List ByteArray → ByteArray
  | 0, ts => tnth ts 0
  | n + 1, ts => rootN n (lvlTo ts (2 ^ n))
theorem pow_small {q : Nat} (h : q ≤ 3) : 2 ^ q ≤ 8 := by
  match q, h with
  | 0, _ => decide
  | 1, _ => decide
  | 2, _ => decide
  | 3, _ => decide
/-- A row of 2 to the q hashes. -/
def Row32 (q : Nat) (ts : List ByteArray) : Prop := ts.length = 2 ^ q ∧ ∀ t ∈ ts, t.size = 32
theorem Row32.up {q : Nat} {ts : List ByteArray} (h : Row32 (q + 1) ts) : Row32 q (lvlTo ts (2 ^ q)) :=
  ⟨lvlTo_length _ _, lvlTo_all ts h.2 _ (by rw [h.1, Nat.pow_succ]; omega)⟩
theorem rootN_size : ∀ (q : Nat) (ts : List ByteArray), Row32 q ts → (rootN q ts).size = 32
  | 0, ts, h => h.2 _ (tnth_mem (by rw [h.1]; decide))
  | q + 1, ts, h => by unfold rootN; exact rootN_size q _ h.up

set_option maxRecDepth 100000 in
theorem pick0_any (u : ByteArray) (v : Value) (ts : List ByteArray) (w : World) (h : RowT w v ts) (h0 : 0 < ts.length) :
    Calls Tryz.prog 74 #[.string u, v] w fun e w' => e = .returned (.string (tnth ts 0)) ∧ w = w' := by
  obtain ⟨a, cap, rfl, h⟩ := h
  rcases h with h | ⟨b, off, rfl, hc, hb, hcell⟩
  · rw [h] at h0; exact absurd h0 (by decide)
  have c0 := hcell 0 h0
  rw [Nat.add_zero] at c0
  have h0' : (0 : Int) < (ts.length : Int) := by omega
  clear hcell
  go_enter Tryz.func74, Tryz.ntmps74
  go_wp2
  go_ret
  exact ⟨rfl, rfl⟩

set_option maxRecDepth 100000 in
set_option maxHeartbeats 400000 in
theorem foldStr_any : ∀ (q : Nat) (ts : List ByteArray) (v : Value) (u : ByteArray) (w : World), q ≤ 3 → Row32 q ts → RowT w v ts → KTab w → 0 < w.heap.size →
    Calls Tryz.prog 72 #[v, .string u, .func (Fn.func 74) #[] #[]] w fun e w' => e = .returned (.string (rootN q ts)) ∧ Below w.heap.size w w'
  | 0, ts, v, u, w, _, hr, h, _, _ => by
    have h1 : ts.length = 1 := hr.1
    have HR : Hid (RowT w v ts) := h
    have HE : Hid (rootN 0 ts = tnth ts 0) := rfl
    obtain ⟨a, cap, rfl, _⟩ := h
    have hl : ((ts.length : Int) == 1) = true := by simp; omega
    have H0 : Hid (0 < ts.length) := by show _ < _; omega
    clear h1 hr
    go_enter Tryz.func72, Tryz.ntmps72
    go_wp2_with fail
    refine (pick0_any u _ ts w HR.out H0.out).mono ?_
    rintro e w1 ⟨rfl, rfl⟩
    go_wp2_with fail
    go_ret
    exact ⟨Tx.ret_str HE.out.symm, Below.refl _ _⟩
  | q + 1, ts, v, u, w, hq, hr, h, hK, hp => by
    have ih := foldStr_any q (lvlTo ts (2 ^ q))
    have HR : Hid (RowT w v ts) := h
    have HE : Hid (rootN (q + 1) ts = rootN q (lvlTo ts (2 ^ q))) := rfl
    have GK : Hid (KTab w) := hK
    have HI : Hid _ := ih
    have HU : Hid (Row32 q (lvlTo ts (2 ^ q)) ∧ ts.length = 2 * 2 ^ q ∧ ∀ t ∈ ts, t.size = 32) := ⟨hr.up, by rw [hr.1, Nat.pow_succ]; omega, hr.2⟩
    have hpw := pow_small (show q ≤ 3 by omega)
    obtain ⟨a, cap, rfl, _⟩ := h
    have h2 : ts.length = 2 * 2 ^ q := HU.out.2.1
    have hpos : 0 < 2 ^ q := Nat.pow_pos (by decide)
    have hl : ((ts.length : Int) == 1) = false := by simp; omega
    have H0 : Hid (0 < ts.length ∧ 2 ^ q ≤ 1000) := ⟨by omega, by omega⟩
    clear hr hK ih h2 hpos hpw
    go_enter Tryz.func72, Tryz.ntmps72
    go_wp2_with fail
    refine (pick0_any u _ ts w HR.out H0.out.1).mono ?_
    rintro e w1 ⟨rfl, rfl⟩
    generalize tnth ts 0 = z
    go_wp2_with fail
    refine (rowAbove_any _ ts (2 ^ q) w HR.out HU.out.2.1 H0.out.2 HU.out.2.2 GK.out hp).mono ?_
    rintro e w1 ⟨v1, rfl, o1, b1⟩
    have O1 : Hid (OwnS w1 w.heap.size v1 (lvlTo ts (2 ^ q))) := o1
    have B1 : Hid (Below w.heap.size w w1) := b1
    clear o1 b1
    go_wp2_with fail
    refine (HI.out v1 z w1 (by omega) HU.out.1 O1.out.row (GK.out.below B1.out hp) (Nat.lt_of_lt_of_le hp B1.out.size)).mono ?_
    rintro e w2 ⟨rfl, b2⟩
    go_wp2_with fail
    go_ret
    exact ⟨Tx.ret_str HE.out.symm, B1.out.trans (b2.mono B1.out.size)⟩

set_option maxRecDepth 100000 in
set_option maxHeartbeats 400000 in
theorem l03Root_any (ts : List ByteArray) (v : Value) (w : World) (hr : Row32 3 ts) (h : RowT w v ts) :
    Calls Tryz.prog 38 #[v] w fun e w' => e = .returned (.string (rootN 3 ts)) ∧ Below w.heap.size w w' := by
  have HR : Hid (Row32 3 ts ∧ RowT w v ts) := ⟨hr, h⟩
  clear hr h
  go_enter Tryz.func38, Tryz.ntmps38
  go_wp2_with fail
  go_loopw [0] (fun u wr => ∃ (q : Nat) (us : List ByteArray), q ≤ 3 ∧ RowT wr u us ∧ Row32 q us ∧ rootN q us = rootN 3 ts ∧ Below w.heap.size w wr) (fun u _ => lenV u)
  case atStart => exact ⟨3, ts, by omega, HR.out.2, HR.out.1, rfl, Below.refl _ _⟩
  case round =>
    obtain ⟨q, us, hq, hrow, h32, he, hb⟩ := hrel
    have HE : Hid (rootN q us = rootN 3 ts) := he
    clear he
    have HW : Hid (RowT wr u0 us) := hrow
    obtain ⟨a, cap, rfl, hc⟩ := hrow
    cases q with
    | zero =>
      have h1 : us.length = 1 := h32.1
      rcases hc with hc | ⟨b, off, rfl, _, hbw, hcell⟩
      · rw [hc] at h1; exact absurd h1 (by decide)
      have c0 := hcell 0 (by omega)
      rw [Nat.add_zero] at c0
      have hl : (us.length : Int) ≤ 1 := by omega
      have hl2 : (0 : Int) < (us.length : Int) := by omega
      have hl3 : ¬ (1 : Int) < (us.length : Int) := by omega
      have HZ : Hid (rootN 0 us = tnth us 0) := rfl
      clear hcell h32 h1
      go_wp2_with fail
      go_ret
      exact ⟨Tx.ret_str (by rw [← HE.out, HZ.out]), hb⟩
    | succ q =>
      have h2 : us.length = 2 * 2 ^ q := by rw [h32.1, Nat.pow_succ]; omega
      have hpos : 0 < 2 ^ q := Nat.pow_pos (by decide)
      have hpw := pow_small (show q ≤ 3 by omega)
      have HU : Hid (Row32 q (lvlTo us (2 ^ q)) ∧ us.length = 2 * 2 ^ q ∧ (∀ t ∈ us, t.size = 32) ∧ 2 ^ q ≤ 1000 ∧ (lvlTo us (2 ^ q)).length < us.length) := ⟨h32.up, h2, h32.2, by omega, by rw [lvlTo_length]; omega⟩
      have hl3 : (1 : Int) < (us.length : Int) := by omega
      clear h32 h2 hpos hpw hc
      go_wp2_with fail
      refine (l03Level_any _ us (2 ^ q) wr HW.out HU.out.2.1 HU.out.2.2.2.1 HU.out.2.2.1).mono ?_
      rintro e w1 ⟨v1, rfl, o1, b1⟩
      have HV : Hid (RowT w1 v1 (lvlTo us (2 ^ q))) := o1.row
      obtain ⟨a1, cap1, rfl, _⟩ := o1.row
      have hb1 := hb.trans (b1.mono hb.size)
      clear o1 b1
      go_wp2_with fail
      exact ⟨⟨q, lvlTo us (2 ^ q), by omega, HV.out, HU.out.1, HE.out, hb1⟩, HU.out.2.2.2.2⟩
end Go.Proofs.YtimmeclclilpdaaGreatDoor.Cr
