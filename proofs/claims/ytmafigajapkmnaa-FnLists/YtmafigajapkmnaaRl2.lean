/- Both ReadList functions; the laws' marks on a list that was handed out. -/
import Derived.Test.YtmafigajapkmnaaSp
import Derived.Test.YtmafigajapkmnaaMkt
import Derived.Deep.RegionWith
namespace Go.Proofs.Ytmafigajapkmnaa.Rl
open Go.RowKit Go.Proofs.Ytmafigajapkmnaa.Sl Go.Proofs.Ytmafigajapkmnaa.By Go.Proofs.Ytmafigajapkmnaa.Ap Go.Proofs.Ytmafigajapkmnaa.Rq Go.Proofs.Ytmafigajapkmnaa.Rr Go.Proofs.Ytmafigajapkmnaa.Tx Go.Proofs.Ytmafigajapkmnaa.Tl Go.Proofs.Ytmafigajapkmnaa.Of Go.Proofs.Ytmafigajapkmnaa.Mk

def rdC (xs : List Int) : Int := rlC (decide (65536 < xs.length)) (rdOk xs)
def rdL (xs : List Int) : List ByteArray := rlO (decide (65536 < xs.length)) (rdOk xs) (lT (tkR 1 xs) (tlN xs))
theorem txt_small (xs : List Int) (hr : ∀ x ∈ xs, 0 ≤ x ∧ x ≤ 255) : (txtB 2 xs).size ≤ 65535 := by
  unfold txtB
  rw [strOfNums_size]
  exact Nat.le_trans (tkB_len _ _) (txtN_le 2 xs (by decide) hr).1
theorem rdL_small (xs : List Int) (hr : ∀ x ∈ xs, 0 ≤ x ∧ x ≤ 255) : (rdL xs).length ≤ 65535 := by
  unfold rdL rlO
  split
  · rw [lT_length]; exact (tlN_le xs hr).1
  · simp

set_option maxHeartbeats 400000 in
theorem implReadList_any (v : Value) (xs : List Int) (w : World) (h : RowB w v xs) (hl : xs.length ≤ 1048576) :
    Calls Try.prog 53 #[v] w fun e w' => ∃ v', e = .returned (.tuple #[v', .int .i64 (rdC xs)]) ∧ OwnS w' w.heap.size v' (rdL xs) ∧ Below w.heap.size w w' := by
  have hr : ∀ x ∈ xs, 0 ≤ x ∧ x ≤ 255 := by obtain ⟨_, _, _, _, h⟩ := h; exact h
  have HR : Hid (RowB w v xs) := h
  have H1 : Hid ((lT (tkR 1 xs) (tlN xs)).length ≤ 1048576) := by show _ ≤ _; rw [lT_length]; have := (tlN_le xs hr).1; omega
  have H2 : Hid (∀ i, i < (lT (tkR 1 xs) (tlN xs)).length → (tnth (lT (tkR 1 xs) (tlN xs)) i).size ≤ 1048576) := fun i hi => by
    rw [lT_length] at hi
    rw [lT_at _ _ _ hi]
    have := txt_small _ (lR_range (tkR_range (n := 1) hr) i)
    omega
  clear h hr
  go_enter Try.func53, Try.ntmps53
  go_wp2_with fail
  refine (readJustList_gen _ xs _ HR.out hl (lT (tkR 1 xs) (tlN xs)) (lR (tkR 1 xs) (tlN xs)) (lS (tkR 1 xs) (tkS 1 xs false) (tlN xs)) H1.out H2.out (fun W p B h1 h2 h3 h4 => takeList_any p B xs false W h1 h2 h3 h4)).mono ?_
  rintro e w1 ⟨v1, rfl, o1, b1⟩
  have O1 : Hid (OwnS w1 w.heap.size v1 (rdL xs)) := o1
  have EC : Hid (rlC (decide (65536 < xs.length)) (!lS (tkR 1 xs) (tkS 1 xs false) (tlN xs) && ((lR (tkR 1 xs) (tlN xs)).isEmpty && okT (lT (tkR 1 xs) (tlN xs)))) = rdC xs) := rfl
  rw [EC.out]
  clear o1 EC
  go_wp2_with fail
  go_ret2
  exact ⟨_, rfl, O1.out, b1⟩

set_option maxRecDepth 100000 in
set_option maxHeartbeats 400000 in
theorem specReadList_any (v : Value) (xs : List Int) (w : World) (h : RowB w v xs) (_hl : xs.length ≤ 1048576) :
    Calls Try.prog 52 #[v] w fun e w' => ∃ v', e = .returned (.tuple #[v', .int .i64 (rdC xs)]) ∧ OwnS w' w.heap.size v' (rdL xs) ∧ Below w.heap.size w w' := by
  have hu := RowU.of h
  have hr : ∀ x ∈ xs, 0 ≤ x ∧ x ≤ 255 := by obtain ⟨_, _, _, _, h⟩ := h; exact h
  obtain ⟨a, cap, rfl, _, _⟩ := h
  by_cases hb : 65536 < xs.length
  · have hb' : (65536 : Int) < (xs.length : Int) := by omega
    have HE : Hid (rdC xs = 2 ∧ rdL xs = []) := by
      unfold rdC rdL
      rw [decide_eq_true hb]
      exact ⟨rfl, rfl⟩
    clear hu hr
    go_enter Try.func52, Try.ntmps52
    go_wp2_with fail
    go_ret2
    rw [HE.out.1, HE.out.2]
    exact ⟨_, rfl, own_empty _ _ (Nat.le_refl _), (Below.refl _ _).alloc (Nat.le_refl _) _⟩
  have hb' : (xs.length : Int) ≤ 65536 := by omega
  have hcv := run_convert_row (P := Try.prog) w w.heap.size 29 5 9 Try.underlying29 Try.underlying5 Try.underlying9 _ xs hu
  have HSP := l02ReadList_any (strOfNums xs) w (by rw [strOfNums_size]; omega)
  rw [bys_str xs hr] at HSP
  have HE : Hid (rdC xs = rlC false (rdOk xs) ∧ rdL xs = rdOut xs) := by
    unfold rdC rdL rdOut rlO
    rw [decide_eq_false hb]
    refine ⟨rfl, ?_⟩
    cases rdOk xs <;> rfl
  have HC : Hid (Calls Try.prog 88 #[.string (strOfNums xs)] w fun e w' => ∃ v', e = .returned (.tuple #[v', .bool (rdOk xs)]) ∧ OwnS w' w.heap.size v' (rdOut xs) ∧ Below w.heap.size w w') := HSP
  clear hu hr HSP
  go_enter Try.func52, Try.ntmps52
  go_wp2_with fail
  refine HC.out.mono ?_
  rintro e w1 ⟨v1, rfl, o1, b1⟩
  have O1 : Hid (OwnS w1 w.heap.size v1 (rdOut xs)) := o1
  clear o1 HC hcv
  cases hk : rdOk xs
  case false =>
    have HO : Hid (rdOut xs = []) := by show _ = _; unfold rdOut; rw [hk]; rfl
    go_wp2_with fail
    go_ret2
    rw [HE.out.1, HE.out.2, HO.out, hk]
    exact ⟨_, rfl, own_empty _ _ b1.size, b1.alloc b1.size _⟩
  case true =>
    go_wp2_with fail
    go_ret2
    rw [HE.out.1, HE.out.2, hk]
    exact ⟨_, rfl, O1.out, b1⟩
end Go.Proofs.Ytmafigajapkmnaa.Rl
