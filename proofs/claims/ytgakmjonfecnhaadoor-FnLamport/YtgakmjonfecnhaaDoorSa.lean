/- SecretAt, of the program and of the specification. -/
import Derived.Test.YtgakmjonfecnhaaDoorSx
import Derived.Test.YtgakmjonfecnhaaDoorHf
namespace Go.Proofs.YtgakmjonfecnhaaDoor.Sa
open Go.RowKit Go.Proofs.YtgakmjonfecnhaaDoor.Sl Go.Proofs.YtgakmjonfecnhaaDoor.By Go.Proofs.YtgakmjonfecnhaaDoor.Ap Go.Proofs.YtgakmjonfecnhaaDoor.Tx Go.Proofs.YtgakmjonfecnhaaDoor.Sh Go.Proofs.YtgakmjonfecnhaaDoor.Ho Go.Proofs.YtgakmjonfecnhaaDoor.Se Go.Proofs.YtgakmjonfecnhaaDoor.Ka Go.Proofs.YtgakmjonfecnhaaDoor.Sx Go.Proofs.YtgakmjonfecnhaaDoor.Hf

theorem ret_sc {s t : ByteArray} {a b : Int} (h : s = t ∧ a = b) : Ending.returned (.tuple #[.string s, .int .i64 a]) = .returned (.tuple #[.string t, .int .i64 b]) := by rw [h.1, h.2]
theorem inR_nat {n a b : Int} (h : inR n a b = true) : a ≤ n ∧ n ≤ b := by unfold inR at h; simpa using h
/-- What SecretAt answers. -/
def sCode (s : ByteArray) (i b v : Int) : Int := if kf s i = 0 then (if inR b 0 31 && inR v 0 1 then 0 else 4) else kf s i
def sOut (s : ByteArray) (i b v : Int) : ByteArray := if sCode s i b v = 0 then sec s i.toNat b.toNat v.toNat else ⟨#[]⟩
theorem kf_cases (s : ByteArray) (i : Int) : (65536 < s.size ∧ kf s i = 2) ∨ (¬ 65536 < s.size ∧ s.size ≠ 32 ∧ kf s i = 1) ∨ (s.size = 32 ∧ inR i 0 7 = false ∧ kf s i = 4) ∨ (s.size = 32 ∧ inR i 0 7 = true ∧ kf s i = 0) := by
  unfold kf
  by_cases h1 : 65536 < s.size
  · rw [hf_long h1]; exact .inl ⟨h1, rfl⟩
  · by_cases h2 : s.size = 32
    · rw [hf_ok h2]
      cases inR i 0 7 with
      | true => exact .inr (.inr (.inr ⟨h2, rfl, rfl⟩))
      | false => exact .inr (.inr (.inl ⟨h2, rfl, rfl⟩))
    · rw [hf_bad h1 h2]; exact .inr (.inl ⟨h1, h2, rfl⟩)
theorem kf_good {s : ByteArray} {i : Int} (h : kf s i = 0) : s.size = 32 ∧ inR i 0 7 = true := by
  rcases kf_cases s i with ⟨_, hk⟩ | ⟨_, _, hk⟩ | ⟨_, _, hk⟩ | ⟨h2, h3, _⟩
  · omega
  · omega
  · omega
  · exact ⟨h2, h3⟩

set_option maxRecDepth 100000 in
set_option maxHeartbeats 800000 in
theorem implSecretAt_any (s : ByteArray) (i b v : Int) (w : World) (hK : KTab w) (hp : 0 < w.heap.size) :
    Calls Tryd.prog 18 #[.string s, .int .i64 i, .int .i64 b, .int .i64 v] w fun e w' => e = .returned (.tuple #[.string (sOut s i b v), .int .i64 (sCode s i b v)]) ∧ Below w.heap.size w w' := by
  have GK : Hid (KTab w) := hK
  clear hK
  by_cases hk : kf s i = 0
  · cases hb : inR b 0 31 with
    | false =>
      have HC : Hid (sCode s i b v = 4 ∧ sOut s i b v = ⟨#[]⟩) := by
        have e : sCode s i b v = 4 := by unfold sCode; rw [if_pos hk, hb]; rfl
        exact ⟨e, by unfold sOut; rw [e]; rfl⟩
      go_enter Tryd.func18, Tryd.ntmps18
      go_wp2_with (first | (go_at_call 45; refine (keyFault_any s i _).mono ?_; rintro e w1 ⟨rfl, rfl⟩; rw [hk]) | (go_at_call 56; refine (within_any b 0 31 _).mono ?_; rintro e w1 ⟨rfl, rfl⟩; rw [hb]))
      go_ret2
      exact ⟨ret_sc ⟨HC.out.2.symm, HC.out.1.symm⟩, Below.refl _ _⟩
    | true =>
      cases hv : inR v 0 1 with
      | false =>
        have HC : Hid (sCode s i b v = 4 ∧ sOut s i b v = ⟨#[]⟩) := by
          have e : sCode s i b v = 4 := by unfold sCode; rw [if_pos hk, hb, hv]; rfl
          exact ⟨e, by unfold sOut; rw [e]; rfl⟩
        go_enter Tryd.func18, Tryd.ntmps18
        go_wp2_with (first | (go_at_call 45; refine (keyFault_any s i _).mono ?_; rintro e w1 ⟨rfl, rfl⟩; rw [hk]) | (go_at_call 56; refine (within_any _ _ _ _).mono ?_; rintro e w1 ⟨rfl, rfl⟩; first | rw [hb] | rw [hv]))
        go_ret2
        exact ⟨ret_sc ⟨HC.out.2.symm, HC.out.1.symm⟩, Below.refl _ _⟩
      | true =>
        obtain ⟨hsz, hi⟩ := kf_good hk
        have HC : Hid (sCode s i b v = 0 ∧ sOut s i b v = sec s i.toNat b.toNat v.toNat) := by
          have e : sCode s i b v = 0 := by unfold sCode; rw [if_pos hk, hb, hv]; rfl
          exact ⟨e, by unfold sOut; rw [e]; rfl⟩
        obtain ⟨i1, i2⟩ := inR_nat hi
        obtain ⟨b1, b2⟩ := inR_nat hb
        obtain ⟨v1, v2⟩ := inR_nat hv
        obtain ⟨i, rfl⟩ := Int.eq_ofNat_of_zero_le i1
        obtain ⟨b, rfl⟩ := Int.eq_ofNat_of_zero_le b1
        obtain ⟨v, rfl⟩ := Int.eq_ofNat_of_zero_le v1
        simp only [Int.toNat_natCast] at HC
        go_enter Tryd.func18, Tryd.ntmps18
        go_wp2_with (first | (go_at_call 45; refine (keyFault_any s _ _).mono ?_; rintro e w1 ⟨rfl, rfl⟩; rw [hk]) | (go_at_call 56; refine (within_any _ _ _ _).mono ?_; rintro e w1 ⟨rfl, rfl⟩; first | rw [hb] | rw [hv]) | fail)
        refine (secretOf_any s i b v w (by omega) (by omega) (by omega) (by omega) GK.out hp).mono ?_
        rintro e w1 ⟨rfl, b1⟩
        go_wp2_with fail
        go_ret2
        exact ⟨ret_sc ⟨HC.out.2.symm, HC.out.1.symm⟩, b1⟩
  · have HC : Hid (sCode s i b v = kf s i ∧ sOut s i b v = ⟨#[]⟩) := by
      have e : sCode s i b v = kf s i := by unfold sCode; rw [if_neg hk]
      exact ⟨e, by unfold sOut; rw [e, if_neg hk]⟩
    have hk' : (kf s i != 0) = true := by simpa using hk
    clear hk
    go_enter Tryd.func18, Tryd.ntmps18
    go_wp2_with (go_at_call 45; refine (keyFault_any s i _).mono ?_; rintro e w1 ⟨rfl, rfl⟩)
    go_ret2
    exact ⟨ret_sc ⟨HC.out.2.symm, HC.out.1.symm⟩, Below.refl _ _⟩

end Go.Proofs.YtgakmjonfecnhaaDoor.Sa
