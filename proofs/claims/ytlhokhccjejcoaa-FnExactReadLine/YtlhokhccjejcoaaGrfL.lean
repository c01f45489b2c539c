/- Numbers' texts are read, of the program and of the specification; strings.CutPrefix of a sign. -/
import Derived.Test.YtlhokhccjejcoaaGra
import Derived.Test.YtlhokhccjejcoaaNameParts
import Derived.Test.YtlhokhccjejcoaaRb
import Derived.BigQuiet
import Derived.Below
import Derived.Laws.RangeString
namespace Go.Proofs.Ytlhokhccjejcoaa.Gr12
open Go.RowKit
open Go.Proofs.Ytlhokhccjejcoaa.Nm (digB digB isDigit_any dig_high runes getD_at)
open Go.Proofs.Ytlhokhccjejcoaa.Rq (inB within_any ret_bool)

def cpB (s : ByteArray) : Bool := s.data.toList.head? == some 45
def cpS (s : ByteArray) : ByteArray := if cpB s then s.extract 1 s.size else s
def ldB (q : Bool) (l : List UInt8) : Bool := (l.head? == some 48) && (q || decide (1 < l.length))
def nmD (q : Bool) (l : List UInt8) : Option Int := if okD l && !ldB q l then some (if q then -(vl l : Int) else (vl l : Int)) else none
theorem ext_list (s : ByteArray) (a b : Nat) : (s.extract a b).data.toList = (s.data.toList.drop a).take (b - a) := by
  rw [ByteArray.data_extract, Array.toList_extract, List.extract_eq_take_drop]
theorem cpS_list (s : ByteArray) : (cpS s).data.toList = if cpB s then s.data.toList.tail else s.data.toList := by
  unfold cpS
  split
  · rw [ext_list, List.take_of_length_le (by simp), List.drop_one]
  · rfl
theorem nm_cp (s : ByteArray) : nm s.data.toList = nmD (cpB s) (cpS s).data.toList := by
  rw [cpS_list]
  unfold cpB
  cases s.data.toList with
  | nil => rfl
  | cons b d =>
    by_cases hb : b = 45
    · subst hb
      simp only [List.head?_cons, beq_self_eq_true, if_true, List.tail_cons]
      unfold nm nmD ldB
      simp
    · have h1 : ((b :: d).head? == some 45) = false := by simp [hb]
      rw [h1]
      simp only [Bool.false_eq_true, if_false]
      unfold nm nmD ldB
      simp only [hb, if_false, List.head?_cons, Bool.false_or, Bool.false_eq_true]
      congr 2
      cases d <;> simp
/-- What a number's text tells. -/
def nV (s : ByteArray) : Int := (nm s.data.toList).getD 0
def nB (s : ByteArray) : Bool := (nm s.data.toList).isSome
theorem n_no {s : ByteArray} (h : okD (cpS s).data.toList = false ∨ ldB (cpB s) (cpS s).data.toList = true) : nV s = 0 ∧ nB s = false := by
  have e : nm s.data.toList = none := by
    rw [nm_cp]; unfold nmD
    rw [if_neg]
    rcases h with h | h <;> simp [h]
  unfold nV nB; rw [e]; exact ⟨rfl, rfl⟩
theorem n_yes {s : ByteArray} (h : okD (cpS s).data.toList = true) (h2 : ldB (cpB s) (cpS s).data.toList = false) : nV s = (if cpB s then -(vl (cpS s).data.toList : Int) else (vl (cpS s).data.toList : Int)) ∧ nB s = true := by
  have e : nm s.data.toList = some (if cpB s then -(vl (cpS s).data.toList : Int) else (vl (cpS s).data.toList : Int)) := by
    rw [nm_cp]; unfold nmD
    rw [if_pos (by simp [h, h2])]
  unfold nV nB; rw [e]; exact ⟨rfl, rfl⟩
theorem size_list (d : ByteArray) : d.data.toList.length = d.size := by simp
theorem isD_dig (b : UInt8) : isD b = digB (b.toNat : Int) := by unfold isD digB; rw [Bool.eq_iff_iff]; simp; omega
theorem at_list (d : ByteArray) (k : Nat) (h : k < d.size) : d.data.toList[k]? = some (d[k]'h) := by
  have hl : k < d.data.toList.length := by rw [size_list]; exact h
  rw [List.getElem?_eq_getElem hl]; rfl
theorem okD_len {d : ByteArray} (h : ¬ (1 ≤ d.size ∧ d.size ≤ 18)) : okD d.data.toList = false := by
  unfold okD
  rw [size_list, ← Bool.and_assoc, Bool.and_eq_false_iff]
  left
  rw [Bool.and_eq_false_iff, decide_eq_false_iff_not, decide_eq_false_iff_not]
  omega
theorem okD_at {d : ByteArray} {k : Nat} (hk : k < d.size) (h : digB ((d[k]'hk).toNat : Int) = false) : okD d.data.toList = false := by
  unfold okD
  have : d.data.toList.all isD = false := by
    rw [List.all_eq_false]
    exact ⟨d[k]'hk, List.mem_of_getElem? (at_list d k hk), by rw [isD_dig, h]; decide⟩
  rw [this]; simp
theorem okD_all {d : ByteArray} (h1 : 1 ≤ d.size) (h2 : d.size ≤ 18) (h : ∀ k (hk : k < d.size), digB ((d[k]'hk).toNat : Int) = true) : okD d.data.toList = true := by
  unfold okD
  have : d.data.toList.all isD = true := by
    rw [List.all_eq_true]
    intro b hb
    obtain ⟨k, hk, e⟩ := List.getElem_of_mem hb
    have hk' : k < d.size := by rw [← size_list]; exact hk
    have e2 : d[k]'hk' = b := by
      have := at_list d k hk'
      rw [List.getElem?_eq_getElem hk, e] at this
      exact (Option.some.inj this).symm
    rw [isD_dig, ← e2]; exact h k hk'
  rw [this, size_list]; simp; omega
/-- What the first k digits are. -/
def vlT (d : ByteArray) (k : Nat) : Nat := vl (d.data.toList.take k)
theorem vlT_succ (d : ByteArray) (k : Nat) (hk : k < d.size) : vlT d (k + 1) = vlT d k * 10 + ((d[k]'hk).toNat - 48) := by
  unfold vlT
  rw [List.take_add_one, at_list d k hk]
  exact vl_snoc _ _
theorem vlT_all (d : ByteArray) : vlT d d.size = vl d.data.toList := by unfold vlT; rw [← size_list, List.take_length]
theorem vlT_lt (d : ByteArray) : ∀ k, k ≤ d.size → (∀ j (hj : j < d.size), j < k → digB ((d[j]'hj).toNat : Int) = true) → vlT d k < 10 ^ k
  | 0, _, _ => by show vl [] < 1; decide
  | k + 1, hk, h => by
    have ih := vlT_lt d k (by omega) (fun j hj hjk => h j hj (by omega))
    have hd := h k (by omega) (by omega)
    unfold digB at hd
    rw [decide_eq_true_eq] at hd
    rw [vlT_succ d k (by omega), Nat.pow_succ]
    omega
theorem pow17 {k : Nat} (h : k ≤ 17) : 10 ^ k ≤ 100000000000000000 := Nat.le_trans (Nat.pow_le_pow_right (by decide) h) (by decide)
theorem pow18 {k : Nat} (h : k ≤ 18) : 10 ^ k ≤ 1000000000000000000 := Nat.le_trans (Nat.pow_le_pow_right (by decide) h) (by decide)
theorem head_at {d : ByteArray} (h : 0 < d.size) : d.data.toList.head? = some (d[0]'h) := by rw [← at_list d 0 h, List.head?_eq_getElem?]
theorem ret_ib {a b : Int} {c d : Bool} (h : a = b ∧ c = d) : Ending.returned (.tuple #[.int .i64 a, .bool c]) = .returned (.tuple #[.int .i64 b, .bool d]) := by rw [h.1, h.2]
theorem ret_sb {a b : ByteArray} {c d : Bool} (h : a = b ∧ c = d) : Ending.returned (.tuple #[.string a, .bool c]) = .returned (.tuple #[.string b, .bool d]) := by rw [h.1, h.2]
theorem byte48 {b : UInt8} : ((b.toNat : Int) == 48) = (b == 48) := by
  rw [Bool.eq_iff_iff, beq_iff_eq, beq_iff_eq]
  constructor
  · intro h; apply UInt8.toNat_inj.1; show b.toNat = 48; omega
  · intro h; rw [h]; rfl
theorem byte45 {b : UInt8} : ((b.toNat : Int) == 45) = (b == 45) := by
  rw [Bool.eq_iff_iff, beq_iff_eq, beq_iff_eq]
  constructor
  · intro h; apply UInt8.toNat_inj.1; show b.toNat = 45; omega
  · intro h; rw [h]; rfl
set_option maxRecDepth 100000 in
set_option maxHeartbeats 1600000 in
theorem hasP_any (s : ByteArray) (w : World) (hs : s.size ≤ 70000) : Calls Try.prog 37 #[.string s, .string ⟨#[45]⟩] w fun e w' => e = .returned (.bool (cpB s)) ∧ w = w' := by
  by_cases h : 0 < s.size
  · have h1 : (1 : Int) ≤ (s.size : Int) := by omega
    have hq : ((s.extract 0 1).toList == [45]) = cpB s := by
      unfold cpB
      rw [ByteArray.toList_eq, ext_list, head_at h, List.drop_zero]
      have e : s.data.toList.take (1 - 0) = [s[0]'h] := by
        have := at_list s 0 h
        cases hl : s.data.toList with
        | nil => rw [hl] at this; simp at this
        | cons a t => rw [hl] at this; simp at this; simp [this]
      rw [e]; simp
    have HQ : Hid (((s.extract 0 1).toList == [45]) = cpB s) := hq
    generalize cpB s = b at hq HQ ⊢
    go_enter Try.func37, Try.ntmps37
    go_wp2
    go_ret
    exact ⟨rfl, rfl⟩
  · have h1 : ¬ (1 : Int) ≤ (s.size : Int) := by omega
    have HE : Hid (cpB s = false) := by
      show _ = _
      unfold cpB
      have : s.data.toList = [] := List.length_eq_zero_iff.1 (by rw [size_list]; omega)
      rw [this]; rfl
    go_enter Try.func37, Try.ntmps37
    go_wp2
    go_ret
    exact ⟨ret_bool HE.out.symm, rfl⟩
set_option maxRecDepth 100000 in
set_option maxHeartbeats 1600000 in
theorem cutP_any (s : ByteArray) (w : World) (hs : s.size ≤ 70000) : Calls Try.prog 34 #[.string s, .string ⟨#[45]⟩] w fun e w' => e = .returned (.tuple #[.string (cpS s), .bool (cpB s)]) ∧ w = w' := by
  have HP : Hid (∀ W, Calls Try.prog 37 #[.string s, .string ⟨#[45]⟩] W fun e w' => e = .returned (.bool (cpB s)) ∧ W = w') := fun W => hasP_any s W hs
  have HI : Calls Try.prog 36 #[.string s, .string ⟨#[45]⟩] w fun e w' => e = .returned (.tuple #[.string (cpS s), .bool (cpB s)]) ∧ w = w' := by
    cases h : cpB s with
    | false =>
      have HE : Hid (cpS s = s) := by show _ = _; unfold cpS; rw [h]; rfl
      rw [h] at HP
      clear h
      go_enter Try.func36, Try.ntmps36
      go_wp2_with (go_at_call 37; refine (HP.out _).mono ?_; rintro e w1 ⟨rfl, rfl⟩)
      go_ret2
      exact ⟨ret_sb ⟨HE.out.symm, rfl⟩, rfl⟩
    | true =>
      have HE : Hid (cpS s = s.extract 1 s.size) := by show _ = _; unfold cpS; rw [h]; rfl
      have hl : 1 ≤ s.size := by
        refine Nat.pos_of_ne_zero fun e => ?_
        unfold cpB at h
        have : s.data.toList = [] := List.length_eq_zero_iff.1 (by rw [size_list]; exact e)
        rw [this] at h; cases h
      have h1 : (1 : Int) ≤ (s.size : Int) := by omega
      rw [h] at HP
      clear h
      go_enter Try.func36, Try.ntmps36
      go_wp2_with (go_at_call 37; refine (HP.out _).mono ?_; rintro e w1 ⟨rfl, rfl⟩)
      go_ret2
      exact ⟨ret_sb ⟨HE.out.symm, rfl⟩, rfl⟩
  go_enter Try.func34, Try.ntmps34
  go_wp2_with (go_at_call 36; refine HI.mono ?_; rintro e w1 ⟨rfl, rfl⟩)
  go_ret2
  exact ⟨rfl, rfl⟩
set_option maxRecDepth 100000 in
set_option maxHeartbeats 1600000 in
theorem numberIn_any (s : ByteArray) (w : World) (hs : s.size ≤ 70000) :
    Calls Try.prog 33 #[.string s] w fun e w' => e = .returned (.tuple #[.int .i64 (nV s), .bool (nB s)]) ∧ Below w.heap.size w w' := by
  have HC := cutP_any s w hs
  have HW : ∀ x, Calls Try.prog 31 #[.int .i64 x, .int .i64 1, .int .i64 18] w fun e w' => e = .returned (.bool (inB x 1 18)) ∧ w = w' := fun x => (within_any x 1 18 w).mono fun e w' h => ⟨h.1, h.2.symm⟩
  obtain ⟨d, HD⟩ : ∃ d, Hid (cpS s = d) := ⟨_, rfl⟩
  obtain ⟨q, HQ⟩ : ∃ q, Hid (cpB s = q) := ⟨_, rfl⟩
  rw [HD.out, HQ.out] at HC
  have hds : d.size ≤ 70000 := by
    rw [← HD.out, ← size_list, cpS_list]
    split
    · rw [List.length_tail, size_list]; omega
    · rw [size_list]; exact hs
  by_cases h1 : 1 ≤ d.size ∧ d.size ≤ 18
  · have hin : inB (d.size : Int) 1 18 = true := by unfold inB; simp; omega
    have hp : 0 < d.size := by omega
    have hI1 : (0 : Int) < (d.size : Int) := by omega
    have hI2 : (d.size : Int) ≤ 18 := by omega
    have HWd := HW (d.size : Int)
    rw [hin] at HWd
    clear HW hin
    -- a nought ahead
    cases hl : ldB q d.data.toList with
    | true =>
      have HE : Hid (nV s = 0 ∧ nB s = false) := n_no (.inr (by rw [HQ.out, HD.out]; exact hl))
      have hz : ((d[0]'hp).toNat : Int) == 48 := by
        unfold ldB at hl; rw [head_at hp, Bool.and_eq_true] at hl
        rw [byte48]; simpa using hl.1
      have hz1 : (((d[0]'hp).toNat : Int) == 48) = true := hz
      have hne : (s.toList == [48]) = false := by
        refine beq_eq_false_iff_ne.2 fun e => ?_
        rw [ByteArray.toList_eq] at e
        have hq : q = false := by rw [← HQ.out]; unfold cpB; rw [e]; rfl
        have hd : d.data.toList = [48] := by rw [← HD.out, cpS_list, HQ.out, hq, e]; rfl
        unfold ldB at hl
        rw [hd, hq] at hl
        simp at hl
      clear hl hz h1
      go_enter Try.func33, Try.ntmps33
      go_wp2_with (first | (go_at_call 34; refine HC.mono ?_; rintro e w1 ⟨rfl, rfl⟩) | (go_at_call 31; refine HWd.mono ?_; rintro e w1 ⟨rfl, rfl⟩))
      go_ret2
      exact ⟨ret_ib ⟨HE.out.1.symm, HE.out.2.symm⟩, Below.refl _ _⟩
    | false =>
      have HL : Hid (ldB q d.data.toList = false) := hl
      obtain ⟨z0, HZ0⟩ : ∃ z0, Hid ((((d[0]'hp).toNat : Int) == 48) = z0) := ⟨_, rfl⟩
      have hz0 := HZ0.out
      have hne : z0 = true → (s.toList == [48]) = true := fun hz => by
        rw [beq_iff_eq, ByteArray.toList_eq]
        rw [hz, byte48] at hz0
        have hh : (d.data.toList.head? == some 48) = true := by rw [head_at hp]; simpa using hz0
        unfold ldB at hl
        rw [hh, Bool.true_and, Bool.or_eq_false_iff] at hl
        have hlen : d.size = 1 := by have := hl.2; simp at this; omega
        have e : d.data.toList = s.data.toList := by rw [← HD.out, cpS_list, HQ.out, hl.1]; rfl
        rw [← e]
        have h0 := head_at hp
        cases hc : d.data.toList with
        | nil => rw [hc] at h0; simp at h0
        | cons a t =>
          have ht : t = [] := List.length_eq_zero_iff.1 (by have := size_list d; rw [hc] at this; simp at this; omega)
          rw [hc] at hh
          simp at hh
          rw [ht, hh]
      clear hl
      have HB : Hid (1 ≤ d.size ∧ d.size ≤ 18) := h1
      go_enter Try.func33, Try.ntmps33
      cases z0 with
      | true =>
        have hne1 := hne rfl
        clear hne h1
        go_wp2_with (first | (go_at_call 34; refine HC.mono ?_; rintro e w1 ⟨rfl, rfl⟩) | (go_at_call 31; refine HWd.mono ?_; rintro e w1 ⟨rfl, rfl⟩))
        clear hz0 HZ0
        go_loopw [6] (fun v w' => ∃ k : Nat, k ≤ d.size ∧ v = .int .i64 (vlT d k : Int) ∧ w' = w.iter d k ∧ Hid (∀ j (hj : j < d.size), j < k → digB ((d[j]'hj).toNat : Int) = true)) (fun _ w' => d.size - w'.iterPos w.heap.size)
        case atStart => exact ⟨0, Nat.zero_le _, rfl, rfl, fun j hj hjk => absurd hjk (by omega)⟩
        case round =>
          obtain ⟨k, hk2, rfl, rfl, hall⟩ := hrel
          have hv : (vlT d k : Int) ≤ 1000000000000000000 := by
            have h1 := vlT_lt d k hk2 hall.out
            have h2 := pow18 (Nat.le_trans hk2 HB.out.2)
            omega
          have hv0 : (0 : Int) ≤ (vlT d k : Int) := by omega
          by_cases hlt : k < d.size
          · have hv7 : (vlT d k : Int) ≤ 100000000000000000 := by
              have h1 := vlT_lt d k hk2 hall.out
              have h2 := pow17 (k := k) (by have := HB.out.2; omega)
              omega
            rcases runes d k hlt with ⟨hdec, hlow⟩ | ⟨hdec, hhigh⟩
            · have hnx : ∀ ty, (Instr.next (.pointer (some ⟨w.heap.size, 0, none⟩)) true ty).run Try.prog (w.iter d k) = _ := fun ty => run_next_ascii w d k ty hlt (by omega)
              clear hdec
              cases hd : digB ((d[k]'hlt).toNat : Int) with
              | false =>
                have hn : Hid (nV s = 0 ∧ nB s = false) := n_no (.inl (by rw [HD.out]; exact okD_at hlt hd))
                go_wp2_with (go_at_call 35; refine (isDigit_any _ _).mono ?_; rintro e w' ⟨rfl, rfl⟩)
                go_ret2
                exact ⟨ret_ib ⟨hn.out.1.symm, hn.out.2.symm⟩, (Below.refl _ _).alloc (Nat.le_refl _) _⟩
              | true =>
                have hb : 48 ≤ ((d[k]'hlt).toNat : Int) ∧ ((d[k]'hlt).toNat : Int) ≤ 57 := by unfold digB at hd; simpa using hd
                have HS : Hid ((vlT d (k + 1) : Int) = 10 * (vlT d k : Int) + (((d[k]'hlt).toNat : Int) - 48)) := by show _ = _; rw [vlT_succ d k hlt]; omega
                have HA : Hid (∀ j (hj : j < d.size), j < k + 1 → digB ((d[j]'hj).toNat : Int) = true) := fun j hj hjk => by
                  by_cases e : j = k
                  · subst e; exact hd
                  · exact hall.out j hj (by omega)
                obtain ⟨hb1, hb2⟩ := hb
                go_wp2_with (go_at_call 35; refine (isDigit_any _ _).mono ?_; rintro e w' ⟨rfl, rfl⟩)
                go_roundw
                case rel => exact ⟨k + 1, by omega, by rw [HS.out], rfl, HA⟩
                case measure => simp; omega
            · have hnx : ∀ ty, (Instr.next (.pointer (some ⟨w.heap.size, 0, none⟩)) true ty).run Try.prog (w.iter d k) = _ := fun ty => run_next_any w d k ty hlt
              have hn : Hid (nV s = 0 ∧ nB s = false) := n_no (.inl (by rw [HD.out]; exact okD_at hlt (dig_high _ hhigh)))
              have hd := dig_high _ hdec
              go_wp2_with (go_at_call 35; refine (isDigit_any _ _).mono ?_; rintro e w' ⟨rfl, rfl⟩)
              go_ret2
              exact ⟨ret_ib ⟨hn.out.1.symm, hn.out.2.symm⟩, (Below.refl _ _).alloc (Nat.le_refl _) _⟩
          · obtain rfl : k = d.size := by omega
            have HE : Hid (nV s = (if q then -(vlT d d.size : Int) else (vlT d d.size : Int)) ∧ nB s = true) := by
              show _ ∧ _
              have := n_yes (s := s) (by rw [HD.out]; exact okD_all HB.out.1 HB.out.2 (fun j hj => hall.out j hj hj)) (by rw [HQ.out, HD.out]; exact HL.out)
              rwa [HQ.out, HD.out, ← vlT_all] at this
            have hnx : ∀ ty, (Instr.next (.pointer (some ⟨w.heap.size, 0, none⟩)) true ty).run Try.prog (w.iter d d.size) = _ := fun ty => run_next_end w d d.size ty hlt
            cases q with
            | true =>
              go_wp2
              go_ret2
              exact ⟨ret_ib ⟨HE.out.1.symm, HE.out.2.symm⟩, (Below.refl _ _).alloc (Nat.le_refl _) _⟩
            | false =>
              go_wp2
              go_ret2
              exact ⟨ret_ib ⟨HE.out.1.symm, HE.out.2.symm⟩, (Below.refl _ _).alloc (Nat.le_refl _) _⟩
      | false =>
        clear hne h1
        go_wp2_with (first | (go_at_call 34; refine HC.mono ?_; rintro e w1 ⟨rfl, rfl⟩) | (go_at_call 31; refine HWd.mono ?_; rintro e w1 ⟨rfl, rfl⟩))
        clear hz0 HZ0
        go_loopw [6] (fun v w' => ∃ k : Nat, k ≤ d.size ∧ v = .int .i64 (vlT d k : Int) ∧ w' = w.iter d k ∧ Hid (∀ j (hj : j < d.size), j < k → digB ((d[j]'hj).toNat : Int) = true)) (fun _ w' => d.size - w'.iterPos w.heap.size)
        case atStart => exact ⟨0, Nat.zero_le _, rfl, rfl, fun j hj hjk => absurd hjk (by omega)⟩
        case round =>
          obtain ⟨k, hk2, rfl, rfl, hall⟩ := hrel
          have hv : (vlT d k : Int) ≤ 1000000000000000000 := by
            have h1 := vlT_lt d k hk2 hall.out
            have h2 := pow18 (Nat.le_trans hk2 HB.out.2)
            omega
          have hv0 : (0 : Int) ≤ (vlT d k : Int) := by omega
          by_cases hlt : k < d.size
          · have hv7 : (vlT d k : Int) ≤ 100000000000000000 := by
              have h1 := vlT_lt d k hk2 hall.out
              have h2 := pow17 (k := k) (by have := HB.out.2; omega)
              omega
            rcases runes d k hlt with ⟨hdec, hlow⟩ | ⟨hdec, hhigh⟩
            · have hnx : ∀ ty, (Instr.next (.pointer (some ⟨w.heap.size, 0, none⟩)) true ty).run Try.prog (w.iter d k) = _ := fun ty => run_next_ascii w d k ty hlt (by omega)
              clear hdec
              cases hd : digB ((d[k]'hlt).toNat : Int) with
              | false =>
                have hn : Hid (nV s = 0 ∧ nB s = false) := n_no (.inl (by rw [HD.out]; exact okD_at hlt hd))
                go_wp2_with (go_at_call 35; refine (isDigit_any _ _).mono ?_; rintro e w' ⟨rfl, rfl⟩)
                go_ret2
                exact ⟨ret_ib ⟨hn.out.1.symm, hn.out.2.symm⟩, (Below.refl _ _).alloc (Nat.le_refl _) _⟩
              | true =>
                have hb : 48 ≤ ((d[k]'hlt).toNat : Int) ∧ ((d[k]'hlt).toNat : Int) ≤ 57 := by unfold digB at hd; simpa using hd
                have HS : Hid ((vlT d (k + 1) : Int) = 10 * (vlT d k : Int) + (((d[k]'hlt).toNat : Int) - 48)) := by show _ = _; rw [vlT_succ d k hlt]; omega
                have HA : Hid (∀ j (hj : j < d.size), j < k + 1 → digB ((d[j]'hj).toNat : Int) = true) := fun j hj hjk => by
                  by_cases e : j = k
                  · subst e; exact hd
                  · exact hall.out j hj (by omega)
                obtain ⟨hb1, hb2⟩ := hb
                go_wp2_with (go_at_call 35; refine (isDigit_any _ _).mono ?_; rintro e w' ⟨rfl, rfl⟩)
                go_roundw
                case rel => exact ⟨k + 1, by omega, by rw [HS.out], rfl, HA⟩
                case measure => simp; omega
            · have hnx : ∀ ty, (Instr.next (.pointer (some ⟨w.heap.size, 0, none⟩)) true ty).run Try.prog (w.iter d k) = _ := fun ty => run_next_any w d k ty hlt
              have hn : Hid (nV s = 0 ∧ nB s = false) := n_no (.inl (by rw [HD.out]; exact okD_at hlt (dig_high _ hhigh)))
              have hd := dig_high _ hdec
              go_wp2_with (go_at_call 35; refine (isDigit_any _ _).mono ?_; rintro e w' ⟨rfl, rfl⟩)
              go_ret2
              exact ⟨ret_ib ⟨hn.out.1.symm, hn.out.2.symm⟩, (Below.refl _ _).alloc (Nat.le_refl _) _⟩
          · obtain rfl : k = d.size := by omega
            have HE : Hid (nV s = (if q then -(vlT d d.size : Int) else (vlT d d.size : Int)) ∧ nB s = true) := by
              show _ ∧ _
              have := n_yes (s := s) (by rw [HD.out]; exact okD_all HB.out.1 HB.out.2 (fun j hj => hall.out j hj hj)) (by rw [HQ.out, HD.out]; exact HL.out)
              rwa [HQ.out, HD.out, ← vlT_all] at this
            have hnx : ∀ ty, (Instr.next (.pointer (some ⟨w.heap.size, 0, none⟩)) true ty).run Try.prog (w.iter d d.size) = _ := fun ty => run_next_end w d d.size ty hlt
            cases q with
            | true =>
              go_wp2
              go_ret2
              exact ⟨ret_ib ⟨HE.out.1.symm, HE.out.2.symm⟩, (Below.refl _ _).alloc (Nat.le_refl _) _⟩
            | false =>
              go_wp2
              go_ret2
              exact ⟨ret_ib ⟨HE.out.1.symm, HE.out.2.symm⟩, (Below.refl _ _).alloc (Nat.le_refl _) _⟩
  · have hin : inB (d.size : Int) 1 18 = false := by unfold inB; simp; omega
    have HWd := HW (d.size : Int)
    rw [hin] at HWd
    have HE : Hid (nV s = 0 ∧ nB s = false) := n_no (.inl (by rw [HD.out]; exact okD_len h1))
    clear HW hin h1
    go_enter Try.func33, Try.ntmps33
    go_wp2_with (first | (go_at_call 34; refine HC.mono ?_; rintro e w1 ⟨rfl, rfl⟩) | (go_at_call 31; refine HWd.mono ?_; rintro e w1 ⟨rfl, rfl⟩))
    go_ret2
    exact ⟨ret_ib ⟨HE.out.1.symm, HE.out.2.symm⟩, Below.refl _ _⟩
end Go.Proofs.Ytlhokhccjejcoaa.Gr12
