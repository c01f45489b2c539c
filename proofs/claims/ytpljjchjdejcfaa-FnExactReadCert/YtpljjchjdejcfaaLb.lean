/- A list's bytes: both ListBytes functions. -/
import Derived.Test.YtpljjchjdejcfaaTxs
import Derived.Test.YtpljjchjdejcfaaPut
import Derived.Test.YtpljjchjdejcfaaReqPut
import Derived.Deep.RegionLaw
import Derived.Deep.CutRange
import Derived.Deep.DeepCutAuto
namespace Go.Proofs.Ytpljjchjdejcfaa.Lb
open Go.RowKit Go.Proofs.Ytpljjchjdejcfaa.Sl Go.Proofs.Ytpljjchjdejcfaa.By Go.Proofs.Ytpljjchjdejcfaa.Rq Go.Proofs.Ytpljjchjdejcfaa.Ap Go.Proofs.Ytpljjchjdejcfaa.Pu Go.Proofs.Ytpljjchjdejcfaa.Tx Go.Proofs.Ytpljjchjdejcfaa.Rp Go.Proofs.Ytpljjchjdejcfaa.Rr

/-- The bytes of the first k texts, how many there are ahead. -/
def listTo (ts : List ByteArray) : Nat → List Int
  | 0 => nums (ts.length : Int) 1 1
  | k + 1 => listTo ts k ++ (nums ((tnth ts k).size : Int) 2 2 ++ bys (tnth ts k))
def lenTo (ts : List ByteArray) : Nat → Nat
  | 0 => 1
  | k + 1 => lenTo ts k + (2 + (tnth ts k).size)
theorem listTo_length (ts : List ByteArray) : ∀ k, (listTo ts k).length = lenTo ts k
  | 0 => by unfold listTo lenTo; rw [nums_length]
  | k + 1 => by unfold listTo lenTo; rw [List.length_append, List.length_append, listTo_length ts k, nums_length, bys_length]
theorem listTo_range (ts : List ByteArray) : ∀ k, ∀ z ∈ listTo ts k, 0 ≤ z ∧ z ≤ 255
  | 0 => nums_range _ _ _
  | k + 1 => by
    intro z hz
    unfold listTo at hz
    rw [List.mem_append, List.mem_append] at hz
    rcases hz with h | h | h
    · exact listTo_range ts k z h
    · exact nums_range _ _ _ z h
    · exact bys_range _ z h
def bad (ts : List ByteArray) (k : Nat) : Bool := decide (20000 < (tnth ts k).size) || decide (65536 < lenTo ts (k + 1))
def cd (ts : List ByteArray) (k : Nat) : Int := if 20000 < (tnth ts k).size then 1 else 7
/-- What ListBytes answers. -/
def lbCode (ts : List ByteArray) : Int := if 4096 < ts.length then 2 else if 100 < ts.length then 1 else match (List.range ts.length).find? (bad ts) with
  | none => 0
  | some k => cd ts k
def lbOut (ts : List ByteArray) : List Int := if lbCode ts = 0 then listTo ts ts.length else []
theorem find_first (p : Nat → Bool) (n k : Nat) (hk : k < n) (h : ∀ j, j < k → p j = false) (hp : p k = true) : (List.range n).find? p = some k := by
  rw [List.find?_range_eq_some]
  exact ⟨hp, by simpa using hk, fun j hj => by simp [h j hj]⟩
theorem find_none (p : Nat → Bool) (n : Nat) (h : ∀ j, j < n → p j = false) : (List.range n).find? p = none := by
  rw [List.find?_eq_none]
  intro x hx
  simp [h x (by simpa using hx)]
theorem cd_pos (ts : List ByteArray) (k : Nat) : cd ts k ≠ 0 := by unfold cd; split <;> decide
theorem lb_bad (ts : List ByteArray) (k : Nat) (hl : ts.length ≤ 100) (hk : k < ts.length) (h : ∀ j, j < k → bad ts j = false) (hp : bad ts k = true) : lbCode ts = cd ts k ∧ lbOut ts = [] := by
  have e : lbCode ts = cd ts k := by unfold lbCode; rw [if_neg (by omega), if_neg (by omega), find_first _ _ k hk h hp]
  exact ⟨e, by unfold lbOut; rw [if_neg (by rw [e]; exact cd_pos ts k)]⟩
theorem lb_good (ts : List ByteArray) (hl : ts.length ≤ 100) (h : ∀ j, j < ts.length → bad ts j = false) : lbCode ts = 0 ∧ lbOut ts = listTo ts ts.length := by
  have e : lbCode ts = 0 := by unfold lbCode; rw [if_neg (by omega), if_neg (by omega), find_none _ _ h]
  exact ⟨e, by unfold lbOut; rw [if_pos e]⟩

set_option maxHeartbeats 1600000 in
theorem implListBytes_any (v : Value) (ts : List ByteArray) (w : World) (h : RowT w v ts) (hl : ts.length ≤ 1048576) (hs : ∀ i, i < ts.length → (tnth ts i).size ≤ 1048576) :
    Calls Try.prog 63 #[v] w fun e w' => ∃ v', e = .returned (.tuple #[v', .int .i64 (lbCode ts)]) ∧ OwnB 5 w' w.heap.size v' (lbOut ts) ∧ Below w.heap.size w w' := by
  have HR : Hid (RowT w v ts) := h
  obtain ⟨a, cap, rfl, h⟩ := h
  by_cases h1 : 4096 < ts.length
  · have h1' : (4096 : Int) < (ts.length : Int) := by omega
    have HC : Hid (lbCode ts = 2) := if_pos h1
    have HO : Hid (lbOut ts = []) := by show _ = _; unfold lbOut; rw [HC.out]; rfl
    go_enter Try.func63, Try.ntmps63
    go_wp2
    go_ret2
    exact ⟨_, ret_tup HC.out.symm, by rw [HO.out]; exact own_nil _ _ _, Below.refl _ _⟩
  have h1' : (ts.length : Int) ≤ 4096 := by omega
  by_cases h2 : 100 < ts.length
  · have h2' : (100 : Int) < (ts.length : Int) := by omega
    have HC : Hid (lbCode ts = 1) := by show _ = _; unfold lbCode; rw [if_neg h1, if_pos h2]
    have HO : Hid (lbOut ts = []) := by show _ = _; unfold lbOut; rw [HC.out]; rfl
    go_enter Try.func63, Try.ntmps63
    go_wp2
    go_ret2
    exact ⟨_, ret_tup HC.out.symm, by rw [HO.out]; exact own_nil _ _ _, Below.refl _ _⟩
  have h2' : (ts.length : Int) ≤ 100 := by omega
  have HS : Hid (∀ i, i < ts.length → (tnth ts i).size ≤ 1048576) := hs
  clear hs hl h1
  go_enter Try.func63, Try.ntmps63
  go_wp2_with fail
  refine (putNumber_any (.slice none 0 0) [] (ts.length : Int) 1 w.heap.size _ (own_nil _ _ _) (Nat.le_refl _) (by decide) (by simp)).mono ?_
  rintro e w1 ⟨v1, rfl, o1, k1⟩
  have O1 : Hid (OwnB 5 w1 w.heap.size v1 (listTo ts 0)) := by rw [List.nil_append] at o1; exact o1
  clear o1
  go_wp2_with fail
  go_loopw [4, 6, 18] (fun b _ i wr => ∃ k : Nat, k ≤ ts.length ∧ i = .int .i64 k ∧ OwnB 5 wr w.heap.size b (listTo ts k) ∧ Kp w wr (.slice none 0 0) b ∧ Hid (lenTo ts k ≤ 65536 ∧ ∀ j, j < k → bad ts j = false)) (fun _ _ i _ => ts.length - (intOf i).toNat)
  case atStart => exact ⟨0, by omega, rfl, O1.out, k1, ⟨by unfold lenTo; omega, fun j hj => absurd hj (by omega)⟩⟩
  case round =>
    clear O1 k1
    obtain ⟨k, hk, rfl, ho, hkp, HB⟩ := hrel
    by_cases hlt : k < ts.length
    · rcases h with h | ⟨b, off, rfl, hc, hb, hcell⟩
      · exact absurd hlt (by rw [h]; simp)
      have hc1 : wr.cell? ⟨b, off + k, none⟩ = some (.string (tnth ts k)) := (hkp.nil.cell (p := ⟨b, off + k, none⟩) hb).trans (hcell k hlt)
      have hsz := HS.out k hlt
      have HL : Hid (lenTo ts (k + 1) = lenTo ts k + (2 + (tnth ts k).size)) := rfl
      have HLT : Hid (listTo ts (k + 1) = listTo ts k ++ (nums ((tnth ts k).size : Int) 2 2 ++ bys (tnth ts k))) := rfl
      have HLN : Hid ((listTo ts (k + 1)).length = lenTo ts (k + 1)) := listTo_length ts (k + 1)
      have HL0 : Hid ((listTo ts k).length = lenTo ts k) := listTo_length ts k
      by_cases hbig : 20000 < (tnth ts k).size
      · have hbig' : (20000 : Int) < ((tnth ts k).size : Int) := by omega
        obtain ⟨e1, e2⟩ := lb_bad ts k (by omega) hlt HB.out.2 (by unfold bad; simp [hbig])
        have HC : Hid (lbCode ts = 1) := by show _ = _; rw [e1]; unfold cd; rw [if_pos hbig]
        have HO : Hid (lbOut ts = []) := e2
        clear e1 e2 hcell
        go_wp2
        go_ret2
        exact ⟨_, ret_tup HC.out.symm, by rw [HO.out]; exact own_nil _ _ _, hkp.nil⟩
      have hbig' : ((tnth ts k).size : Int) ≤ 20000 := by omega
      have HO' : Hid (OwnB 5 wr w.heap.size u4 (listTo ts k)) := ho
      clear ho hcell
      go_wp2_with fail
      refine (putText_any u4 _ (tnth ts k) 2 w.heap.size _ HO'.out hkp.size (by decide) (by rw [HL0.out]; have := HB.out.1; omega) (by omega)).mono ?_
      rintro e w2 ⟨v2, rfl, o2, k2⟩
      rw [List.append_assoc, ← HLT.out] at o2
      obtain ⟨ad, cp, hv2⟩ : ∃ ad cp, v2 = .slice ad (lenTo ts (k + 1)) cp := by
        rw [← HLN.out]
        rcases o2.2 with ⟨h, h0⟩ | ⟨g, c, cur, h, _⟩
        · exact ⟨none, 0, by rw [h, h0]⟩
        · exact ⟨_, _, h⟩
      have hk2 := hkp.trans k2
      rw [hv2] at o2 hk2 ⊢
      clear hv2 k2 HO' hkp
      by_cases hfull : 65536 < lenTo ts (k + 1)
      · have hfull' : (65536 : Int) < ((lenTo ts (k + 1) : Nat) : Int) := by omega
        obtain ⟨e1, e2⟩ := lb_bad ts k (by omega) hlt HB.out.2 (by unfold bad; simp [hfull])
        have HC : Hid (lbCode ts = 7) := by show _ = _; rw [e1]; unfold cd; rw [if_neg hbig]
        have HO : Hid (lbOut ts = []) := e2
        clear e1 e2
        go_wp2
        go_ret2
        exact ⟨_, ret_tup HC.out.symm, by rw [HO.out]; exact own_nil _ _ _, hk2.nil⟩
      · have hfull' : ((lenTo ts (k + 1) : Nat) : Int) ≤ 65536 := by omega
        have hgood : bad ts k = false := by unfold bad; simp; omega
        have HG : Hid (bad ts k = false) := hgood
        clear hgood
        go_wp2
        exact ⟨⟨k + 1, by omega, by go_num, o2, hk2, ⟨by omega, fun j hj => by by_cases e : j < k; exact HB.out.2 j e; (obtain rfl : j = k := by omega); exact HG.out⟩⟩, by simp [intOf]; omega⟩
    · obtain rfl : k = ts.length := by omega
      obtain ⟨e1, e2⟩ := lb_good ts (by omega) HB.out.2
      have HC : Hid (lbCode ts = 0) := e1
      have HO : Hid (lbOut ts = listTo ts ts.length) := e2
      clear e1 e2
      go_wp2
      go_ret2
      exact ⟨_, ret_tup HC.out.symm, by rw [HO.out]; exact ho, hkp.nil⟩
end Go.Proofs.Ytpljjchjdejcfaa.Lb
