/- What both Check32 functions answer: the CRC-32 of the bytes, in plain numbers. -/
import Derived.Test.YtjggfholjdplbabDoorSl
namespace Go.Proofs.YtjggfholjdplbabDoor.Cr
open Go.RowKit Go.Proofs.YtjggfholjdplbabDoor.Sl

/-- One step of the register. -/
def cb (n : Nat) : Nat := if n % 2 = 1 then n / 2 ^^^ 3988292384 else n / 2
def cbN : Nat → Nat → Nat
  | 0, n => n
  | j + 1, n => cb (cbN j n)
theorem cb_lt {n : Nat} (h : n < 4294967296) : cb n < 4294967296 := by
  unfold cb
  split
  · exact Nat.xor_lt_two_pow (n := 32) (by omega) (by decide)
  · omega
theorem cbN_lt : ∀ (j : Nat) {n : Nat}, n < 4294967296 → cbN j n < 4294967296
  | 0, _, h => h
  | j + 1, _, h => cb_lt (cbN_lt j h)
def crcTo (xs : List Int) : Nat → Nat
  | 0 => 4294967295
  | k + 1 => cbN 8 (crcTo xs k ^^^ (nth xs k).toNat)
theorem crcTo_lt {xs : List Int} (hr : ∀ x ∈ xs, 0 ≤ x ∧ x ≤ 255) : ∀ k, crcTo xs k < 4294967296
  | 0 => by show 4294967295 < 4294967296; decide
  | k + 1 => cbN_lt 8 (Nat.xor_lt_two_pow (n := 32) (crcTo_lt hr k) (by have := range_at hr k; omega))
def crc (xs : List Int) : Int := if 65536 < xs.length then 0 else ((crcTo xs xs.length ^^^ 4294967295 : Nat) : Int)

theorem xor64 (a b : Nat) (ha : a < 4294967296) (hb : b < 4294967296) : bits .xor .i64 (a : Int) (b : Int) = ((a ^^^ b : Nat) : Int) := by
  have h : a ^^^ b < 4294967296 := Nat.xor_lt_two_pow (n := 32) ha hb
  have e1 := ofInt_u64 a (by omega)
  have e2 := ofInt_u64 b (by omega)
  have e : bits .xor .i64 (a : Int) (b : Int) = IntKind.i64.wrap (((BitVec.ofInt 64 (a : Int) ^^^ BitVec.ofInt 64 (b : Int)).toNat : Nat) : Int) := rfl
  rw [e, BitVec.toNat_xor, e1, e2, IntKind.wrap_i64]
  omega

theorem cb_odd (c : Nat) (h : c % 2 = 1) (hc : c < 4294967296) : bits .xor .i64 ((c : Int) / 2) 3988292384 = ((cb c : Nat) : Int) := by
  have e : ((c : Int) / 2) = ((c / 2 : Nat) : Int) := by omega
  have e2 : (3988292384 : Int) = ((3988292384 : Nat) : Int) := rfl
  rw [e, e2, xor64 _ _ (by omega) (by decide)]
  unfold cb
  rw [if_pos h]
theorem cb_odd32 (c : Nat) (h : c % 2 = 1) (hc : c < 4294967296) : bits .xor .u32 ((c : Int) / 2) 3988292384 = ((cb c : Nat) : Int) := by
  have e : ((c : Int) / 2) = ((c / 2 : Nat) : Int) := by omega
  have e2 : (3988292384 : Int) = ((3988292384 : Nat) : Int) := rfl
  rw [e, e2, u32_xor_nat _ _ (by omega) (by decide)]
  unfold cb
  rw [if_pos h]
theorem cb_even (c : Nat) (h : ¬ c % 2 = 1) : (c : Int) / 2 = ((cb c : Nat) : Int) := by
  unfold cb
  rw [if_neg h]
  omega
theorem not32 (c : Nat) (hc : c < 4294967296) : wrap64 (bits .xor .u32 IntKind.u32.max (c : Int)) = ((c ^^^ 4294967295 : Nat) : Int) := by
  have e : IntKind.u32.max = ((4294967295 : Nat) : Int) := rfl
  have h : 4294967295 ^^^ c < 4294967296 := Nat.xor_lt_two_pow (n := 32) (by decide) hc
  rw [e, u32_xor_nat _ _ (by decide) hc, Nat.xor_comm c]
  unfold wrap64
  omega
theorem ret_int {a b : Int} (h : a = b) : Ending.returned (.int .i64 a) = .returned (.int .i64 b) := by rw [h]
theorem val_eq {k : IntKind} {a b : Int} (h : a = b) : Value.int k a = .int k b := by rw [h]

set_option maxHeartbeats 800000 in
theorem l01Check_any (v : Value) (xs : List Int) (w : World) (h : RowB w v xs) (hl : xs.length ≤ 65536) :
    Calls Tryd.prog 18 #[v] w fun e w' => e = .returned (.int .i64 (crc xs)) ∧ w' = w := by
  have HE : Hid (crc xs = ((crcTo xs xs.length ^^^ 4294967295 : Nat) : Int)) := if_neg (by omega)
  obtain ⟨a, cap, rfl, h, hr⟩ := h
  go_enter Tryd.func18, Tryd.ntmps18
  go_wp2_with fail
  go_loop [3, 4] (fun n i => ∃ k : Nat, k ≤ xs.length ∧ i = .int .i64 k ∧ n = .int .i64 (crcTo xs k : Nat)) (fun _ i => xs.length - (intOf i).toNat)
  case atStart => exact ⟨0, by omega, rfl, rfl⟩
  case round =>
    obtain ⟨k, hk, rfl, rfl⟩ := hrel
    have hlt32 := crcTo_lt hr k
    by_cases hlt : k < xs.length
    · rcases h with h | ⟨b, off, rfl, hc, hb, hcell⟩
      · exact absurd hlt (by rw [h]; simp)
      have hc1 := hcell k hlt
      have hx := range_at hr k
      clear hcell
      have hm : Hid (cbN 8 (crcTo xs k ^^^ (nth xs k).toNat) = crcTo xs (k + 1)) := rfl
      have hxor : bits .xor .i64 (crcTo xs k : Int) (nth xs k) = ((crcTo xs k ^^^ (nth xs k).toNat : Nat) : Int) := by
        have := xor64 (crcTo xs k) (nth xs k).toNat hlt32 (by omega)
        rwa [Int.toNat_of_nonneg hx.1] at this
      have hm32 : crcTo xs k ^^^ (nth xs k).toNat < 4294967296 := Nat.xor_lt_two_pow (n := 32) hlt32 (by omega)
      generalize crcTo xs k ^^^ (nth xs k).toNat = m at hm hxor hm32
      go_wp2_with fail
      go_loop [3, 5] (fun n j => ∃ q : Nat, q ≤ 8 ∧ j = .int .i64 q ∧ n = .int .i64 (cbN q m : Nat)) (fun _ j => 8 - (intOf j).toNat)
      case atStart => exact ⟨0, by omega, rfl, rfl⟩
      case round =>
        clear hxor
        obtain ⟨q, hq, rfl, rfl⟩ := hrel
        have hc32 := cbN_lt q hm32
        by_cases hq8 : q < 8
        · have hn : Hid (cb (cbN q m) = cbN (q + 1) m) := rfl
          generalize cbN q m = c at hc32 hn
          by_cases ho : c % 2 = 1
          · have ho' : ((c : Int) % 2) = 1 := by omega
            have hx' := cb_odd c ho hc32
            go_wp2
            go_round
            case rel => exact ⟨q + 1, by omega, by go_num, by rw [hn.out]⟩
            case measure => simp [intOf]; omega
          · have ho' : ((c : Int) % 2) = 0 := by omega
            have HX : Hid ((c : Int) / 2 = ((cb c : Nat) : Int)) := cb_even c ho
            go_wp2
            go_round
            case rel => exact ⟨q + 1, by omega, by go_num, val_eq (by rw [HX.out, hn.out])⟩
            case measure => simp [intOf]; omega
        · obtain rfl : q = 8 := by omega
          go_wp2
          go_round
          case rel => exact ⟨k + 1, by omega, by go_num, by rw [hm.out]⟩
          case measure => simp [intOf]; omega
    · obtain rfl : k = xs.length := by omega
      have hx : bits .xor .i64 (crcTo xs xs.length : Int) 4294967295 = ((crcTo xs xs.length ^^^ 4294967295 : Nat) : Int) := xor64 _ 4294967295 hlt32 (by decide)
      go_wp2
      go_ret
      exact ⟨ret_int HE.out.symm, rfl⟩

theorem specCheck32_any (v : Value) (xs : List Int) (w : World) (h : RowB w v xs) (hl : xs.length ≤ 1048576) :
    Calls Tryd.prog 10 #[v] w fun e w' => e = .returned (.int .i64 (crc xs)) ∧ w' = w := by
  by_cases hb : 65536 < xs.length
  · have HE : Hid (crc xs = 0) := if_pos hb
    have hb' : (65536 : Int) < (xs.length : Int) := by omega
    obtain ⟨a, cap, rfl, _, _⟩ := h
    go_enter Tryd.func10, Tryd.ntmps10
    go_wp2
    go_ret
    exact ⟨ret_int HE.out.symm, rfl⟩
  · have hb' : (xs.length : Int) ≤ 65536 := by omega
    have h' := h
    obtain ⟨a, cap, rfl, _, _⟩ := h
    have H : Hid (RowB w (.slice a xs.length cap) xs) := h'
    clear h'
    go_enter Tryd.func10, Tryd.ntmps10
    go_wp2_with (go_at_call 18; refine (l01Check_any _ xs _ H.out (by omega)).mono ?_; rintro e w' ⟨rfl, rfl⟩)
    go_ret
    exact ⟨rfl, rfl⟩

set_option maxHeartbeats 800000 in
theorem implCheck32_any (v : Value) (xs : List Int) (w : World) (h : RowB w v xs) (hl : xs.length ≤ 1048576) :
    Calls Tryd.prog 9 #[v] w fun e w' => e = .returned (.int .i64 (crc xs)) ∧ w' = w := by
  by_cases hb : 65536 < xs.length
  · have HE : Hid (crc xs = 0) := if_pos hb
    have hb' : (65536 : Int) < (xs.length : Int) := by omega
    obtain ⟨a, cap, rfl, _, _⟩ := h
    go_enter Tryd.func9, Tryd.ntmps9
    go_wp2
    go_ret
    exact ⟨ret_int HE.out.symm, rfl⟩
  have hb' : (xs.length : Int) ≤ 65536 := by omega
  have HE : Hid (crc xs = ((crcTo xs xs.length ^^^ 4294967295 : Nat) : Int)) := if_neg (by omega)
  obtain ⟨a, cap, rfl, h, hr⟩ := h
  go_enter Tryd.func9, Tryd.ntmps9
  go_wp2_with fail
  go_loop [3, 12] (fun n i => ∃ k : Nat, k ≤ xs.length ∧ i = .int .i64 k ∧ n = .int .u32 (crcTo xs k : Nat)) (fun _ i => xs.length - (intOf i).toNat)
  case atStart => exact ⟨0, by omega, rfl, rfl⟩
  case round =>
    obtain ⟨k, hk, rfl, rfl⟩ := hrel
    have hlt32 := crcTo_lt hr k
    by_cases hlt : k < xs.length
    · rcases h with h | ⟨b, off, rfl, hc, hb, hcell⟩
      · exact absurd hlt (by rw [h]; simp)
      have hc1 := hcell k hlt
      have hx := range_at hr k
      clear hcell
      have hm : Hid (cbN 8 (crcTo xs k ^^^ (nth xs k).toNat) = crcTo xs (k + 1)) := rfl
      have hxor : bits .xor .u32 (crcTo xs k : Int) (nth xs k) = ((crcTo xs k ^^^ (nth xs k).toNat : Nat) : Int) := by
        have := u32_xor_nat (crcTo xs k) (nth xs k).toNat hlt32 (by omega)
        rwa [Int.toNat_of_nonneg hx.1] at this
      have hm32 : crcTo xs k ^^^ (nth xs k).toNat < 4294967296 := Nat.xor_lt_two_pow (n := 32) hlt32 (by omega)
      generalize crcTo xs k ^^^ (nth xs k).toNat = m at hm hxor hm32
      have hw : IntKind.u32.wrap (nth xs k) = nth xs k := by rw [IntKind.wrap_u32]; omega
      go_wp2_with fail
      go_loop [3, 20] (fun n j => ∃ q : Nat, q ≤ 8 ∧ j = .int .i64 q ∧ n = .int .u32 (cbN q m : Nat)) (fun _ j => 8 - (intOf j).toNat)
      case atStart => exact ⟨0, by omega, rfl, rfl⟩
      case round =>
        clear hxor hw
        obtain ⟨q, hq, rfl, rfl⟩ := hrel
        have hc32 := cbN_lt q hm32
        by_cases hq8 : q < 8
        · have hn : Hid (cb (cbN q m) = cbN (q + 1) m) := rfl
          generalize cbN q m = c at hc32 hn
          by_cases ho : c % 2 = 1
          · have ho' : bits .and .u32 (c : Int) 1 = 1 := by
              have := u32_and_nat c 1 hc32 (by decide)
              rw [Nat.and_one_is_mod, ho] at this
              exact this
            have hx' := cb_odd32 c ho hc32
            go_wp2
            go_round
            case rel => exact ⟨q + 1, by omega, by go_num, by rw [hn.out]⟩
            case measure => simp [intOf]; omega
          · have ho' : bits .and .u32 (c : Int) 1 = 0 := by
              have := u32_and_nat c 1 hc32 (by decide)
              rw [Nat.and_one_is_mod, show c % 2 = 0 by omega] at this
              exact this
            have HX : Hid ((c : Int) / 2 = ((cb c : Nat) : Int)) := cb_even c ho
            go_wp2
            go_round
            case rel => exact ⟨q + 1, by omega, by go_num, val_eq (by rw [HX.out, hn.out])⟩
            case measure => simp [intOf]; omega
        · obtain rfl : q = 8 := by omega
          go_wp2
          go_round
          case rel => exact ⟨k + 1, by omega, by go_num, by rw [hm.out]⟩
          case measure => simp [intOf]; omega
    · obtain rfl : k = xs.length := by omega
      go_wp2
      go_ret
      exact ⟨ret_int ((not32 _ hlt32).trans HE.out.symm), rfl⟩
end Go.Proofs.YtjggfholjdplbabDoor.Cr
