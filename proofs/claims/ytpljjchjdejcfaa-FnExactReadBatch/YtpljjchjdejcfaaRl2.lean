/- Both ReadList functions; the laws' marks on a list that was handed out. -/
import Derived.Test.YtpljjchjdejcfaaSp
import Derived.Test.YtpljjchjdejcfaaMkt
import Derived.Deep.RegionWith
namespace Go.Proofs.Ytpljjchjdejcfaa.Rl
open Go.RowKit Go.Proofs.Ytpljjchjdejcfaa.Sl Go.Proofs.Ytpljjchjdejcfaa.By Go.Proofs.Ytpljjchjdejcfaa.Ap Go.Proofs.Ytpljjchjdejcfaa.Rq Go.Proofs.Ytpljjchjdejcfaa.Rr Go.Proofs.Ytpljjchjdejcfaa.Tx Go.Proofs.Ytpljjchjdejcfaa.Tl Go.Proofs.Ytpljjchjdejcfaa.Of Go.Proofs.Ytpljjchjdejcfaa.Mk

def rdC (xs : List Int) : Int := rlC (decide (65536 < xs.length)) (rdOk xs)
def rdL (xs : List Int) : List ByteArray := rlO (decide (65536 < xs.length)) (rdOk xs) (lT (tkR 1 xs) (tlN xs))
theorem txt_small (xs : List Int) (hr : ∀ x ∈ xs, 0 ≤ x ∧ x ≤ 255) : (txtB 2 xs).size ≤ 65535 := by
  unfold txtB
  rw [strOfNums_size]
  exact Nat.le_trans (tkB_len _ _) (txtN_le 2 xs (by decide) hr).1
theorem rdL_small (xs : List Int) (hr : ∀ x ∈ xs, 0 ≤ x ∧ x ≤ 255) : (rdL xs).length ≤ 65535 := by
  unfold rdL rlO
  split
  · rw [lT_length]; exact (tlN_le xs hr).1
  · simp

set_option maxHeartbeats 400000 in
theorem implReadList_any (v : Value) (xs : List Int) (w : World) (h : RowB w v xs) (hl : xs.length ≤ 1048576) :
    Calls Try.prog 67 #[v] w fun e w' => ∃ v', e = .returned (.tuple #[v', .int .i64 (rdC xs)]) ∧ OwnS w' w.heap.size v' (rdL xs) ∧ Below w.heap.size w w' := by
  have hr : ∀ x ∈ xs, 0 ≤ x ∧ x ≤ 255 := by obtain ⟨_, _, _, _, h⟩ := h; exact h
  have HR : Hid (RowB w v xs) := h
  have H1 : Hid ((lT (tkR 1 xs) (tlN xs)).length ≤ 1048576) := by show _ ≤ _; rw [lT_length]; have := (tlN_le xs hr).1; omega
  have H2 : Hid (∀ i, i < (lT (tkR 1 xs) (tlN xs)).length → (tnth (lT (tkR 1 xs) (tlN xs)) i).size ≤ 1048576) := fun i hi => by
    rw [lT_length] at hi
    rw [lT_at _ _ _ hi]
    have := txt_small _ (lR_range (tkR_range (n := 1) hr) i)
    omega
  clear h hr
  go_enter Try.func67, Try.ntmps67
  go_wp2_with fail
  refine (readJustList_gen _ xs _ HR.out hl (lT (tkR 1 xs) (tlN xs)) (lR (tkR 1 xs) (tlN xs)) (lS (tkR 1 xs) (tkS 1 xs false) (tlN xs)) H1.out H2.out (fun W p B h1 h2 h3 h4 => takeList_any p B xs false W h1 h2 h3 h4)).mono ?_
  rintro e w1 ⟨v1, rfl, o1, b1⟩
  have O1 : Hid (OwnS w1 w.heap.size v1 (rdL xs)) := o1
  have EC : Hid (rlC (decide (65536 < xs.length)) (!lS (tkR 1 xs) (tkS 1 xs false) (tlN xs) && ((lR (tkR 1 xs) (tlN xs)).isEmpty && okT (lT (tkR 1 xs) (tlN xs)))) = rdC xs) := rfl
  rw [EC.out]
  clear o1 EC
  go_wp2_with fail
  go_ret2
  exact ⟨_, rfl, O1.out, b1⟩

end Go.Proofs.Ytpljjchjdejcfaa.Rl
