/- Texts that the source draws. -/
import Derived.Test.YtmafigajapkmnaaGen
namespace Go.Proofs.Ytmafigajapkmnaa.Gn
open Go.RowKit Go.Proofs.Ytmafigajapkmnaa.Sl Go.Proofs.Ytmafigajapkmnaa.By Go.Proofs.Ytmafigajapkmnaa.Ap Go.Proofs.Ytmafigajapkmnaa.Rq Go.Proofs.Ytmafigajapkmnaa.Rr Go.Proofs.Ytmafigajapkmnaa.Tx Go.Proofs.Ytmafigajapkmnaa.Tl Go.Proofs.Ytmafigajapkmnaa.Rl

theorem Src.alloc {B p K : Nat} {w : World} {xs : List Int} (h : Src B w p xs K) (hB : B ≤ p) (o : Obj) : Src B (w.alloc o) p xs K :=
  h.kept (Below.heap_alloc w o p h.lt) (fun k hk => Below.heap_alloc w o k (by have := h.lt; omega))
set_option maxHeartbeats 800000 in
theorem pick_any (b n p B K : Nat) (A : Array Value) (ts : List ByteArray) (xs : List Int) (w : World) (h : Src B w p xs K) (hB : B ≤ p) (hK : K ≤ 1000000000) (hx : xs.length ≤ 1048576) (hn : 0 < n) (hn2 : n ≤ 256) (hb : w.heap[b]? = some (.cells A 9 (0, 0))) (hbp : b ≠ p) (hA : ∀ j, j < n → A[j]? = some (.string (tnth ts j))) :
    Calls Try.prog 113 #[.pointer (some ⟨p, 0, none⟩), .slice (some ⟨b, 0, none⟩) n n] w fun e w' => ∃ r : Nat, e = .returned (.string (tnth ts r)) ∧ r < n ∧ Src B w' p xs (K + 1) ∧ w.grownBy w' (some p) := by
  have h0 : ¬ (n : Int) = 0 := by omega
  have h0' : ((n : Int) == 0) = false := by simp; omega
  have HB : Hid (w.heap[b]? = some (.cells A 9 (0, 0))) := hb
  have HA : Hid (∀ j, j < n → A[j]? = some (.string (tnth ts j))) := hA
  clear hb hA
  go_enter Try.func113, Try.ntmps113
  go_wp2_with fail
  refine (next_any n p B K xs _ h hB hK hx hn hn2).mono ?_
  rintro e w1 ⟨r, rfl, hr, s1, g1⟩
  have HS : Hid (Src B w1 p xs (K + 1)) := s1
  have c1 := (blk_cell (blk_kept HB.out g1 hbp) r (HA.out r hr)).1
  have hr' : (r : Int) < (n : Int) := by omega
  clear s1 h
  go_wp2_with fail
  go_ret
  exact ⟨r, rfl, hr, HS.out, g1⟩

set_option maxHeartbeats 400000 in
theorem source_any (v : Value) (xs : List Int) (w : World) (h : RowB w v xs) (hx : xs.length ≤ 1048576) :
    Calls Try.prog 92 #[v] w fun e w' => e = .returned (.pointer (some ⟨w.heap.size, 0, none⟩)) ∧ Src w.heap.size w' w.heap.size xs 0 ∧ Below w.heap.size w w' := by
  have HU : Hid (RowU w.heap.size w v xs) := RowU.of h
  obtain ⟨a, cap, rfl, _, _⟩ := h
  go_enter Try.func92, Try.ntmps92
  go_wp2_with fail
  go_ret
  refine ⟨rfl, ⟨_, 0, (xs.length : Int) % 1000, blk_new _ _ _, HU.out.kept (fun k hk => Below.heap_alloc _ _ _ hk), Nat.le_refl _, by omega, by omega⟩, (Below.refl _ _).alloc (Nat.le_refl _) _⟩

def four : List ByteArray := [⟨#[]⟩, ⟨#[97]⟩, ⟨#[116, 101, 120, 116]⟩, ⟨#[0, 1]⟩]
theorem four_small (r : Nat) (h : r < 4) : (tnth four r).size ≤ 4 := by
  match r, h with
  | 0, _ => decide
  | 1, _ => decide
  | 2, _ => decide
  | 3, _ => decide
set_option maxHeartbeats 1600000 in
theorem texts_any (p B K : Nat) (xs : List Int) (w : World) (h : Src B w p xs K) (hB : B ≤ p) (hK : K ≤ 1000000) (hx : xs.length ≤ 1048576) :
    Calls Try.prog 94 #[.pointer (some ⟨p, 0, none⟩)] w fun e w' => ∃ v' ts, e = .returned v' ∧ OwnS w' w.heap.size v' ts ∧ ts.length ≤ 5 ∧ (∀ t ∈ ts, t.size ≤ 4) ∧ Src B w' p xs (K + 6) ∧ w.grownBy w' (some p) := by
  have hp := h.lt
  obtain ⟨i0, hi, hz0, hz1, hz2⟩ := info_parts info9
  have HS0 : Hid (Src B (w.alloc (.cells #[] 9)) p xs K) := h.alloc hB _
  clear h
  go_enter Try.func94, Try.ntmps94
  go_wp2_with fail
  refine (next_any 6 p B K xs _ HS0.out hB (by omega) hx (by decide) (by decide)).mono ?_
  rintro e w1 ⟨n, rfl, hn, s1, g1⟩
  have G1 : Hid (w.grownBy w1 (some p)) := grown_trans (grown_alloc (grown_refl _ _) _) g1
  have O1 : Hid (OwnS w1 w.heap.size (.slice (some ⟨w.heap.size, 0, none⟩) 0 0) []) := OwnS.kept (own_empty w w.heap.size (Nat.le_refl _)) g1 hp
  have S1 : Hid (Src B w1 p xs (K + 1)) := s1
  clear s1 g1 HS0
  go_wp2_with fail
  go_loopw [3, 4] (fun out i wr => ∃ (k : Nat) (ts : List ByteArray), k ≤ n ∧ i = .int .i64 ((n : Int) - k) ∧ OwnS wr w.heap.size out ts ∧ ts.length = k ∧ Hid (∀ t ∈ ts, t.size ≤ 4) ∧ Src B wr p xs (K + 1 + k) ∧ w.grownBy wr (some p)) (fun _ i _ => (intOf i).toNat)
  case atStart => exact ⟨0, [], by omega, by simp, O1.out, rfl, (fun t ht => absurd ht (by simp)), S1.out, G1.out⟩
  case round =>
    clear O1 S1 G1
    obtain ⟨k, ts, hk, rfl, ho, hlen, HT, hs, hg⟩ := hrel
    by_cases hlt : k < n
    · have hlt' : (0 : Int) < (n : Int) - k := by omega
      have HO : Hid (OwnS wr w.heap.size u3 ts) := ho
      have HSr : Hid (Src B (wr.alloc (.cells #[.string ⟨#[]⟩, .string ⟨#[97]⟩, .string ⟨#[116, 101, 120, 116]⟩, .string ⟨#[0, 1]⟩] 9)) p xs (K + 1 + k)) := hs.alloc hB _
      have HG : Hid (w.grownBy (wr.alloc (.cells #[.string ⟨#[]⟩, .string ⟨#[97]⟩, .string ⟨#[116, 101, 120, 116]⟩, .string ⟨#[0, 1]⟩] 9)) (some p)) := grown_alloc hg _
      have hpw : p < wr.heap.size := hs.lt
      clear ho hs hg
      go_wp2_with fail
      refine (pick_any wr.heap.size 4 p B (K + 1 + k) _ four xs _ HSr.out hB (by omega) hx (by decide) (by decide) (blk_new _ _ _) (by omega) ?_).mono ?_
      · intro j hj
        match j, hj with
        | 0, _ => rfl
        | 1, _ => rfl
        | 2, _ => rfl
        | 3, _ => rfl
      rintro e w2 ⟨r, rfl, hr, s2, g2⟩
      have o2 : OwnS w2 w.heap.size u3 ts := OwnS.kept (World.ownsRow.alloc HO.out _) g2 hp
      have gg := grown_trans HG.out g2
      have hz4 := four_small r hr
      have hln : ts.length ≤ 1000000 := by omega
      have S2 : Hid (Src B w2 p xs (K + 1 + k + 1)) := s2
      have HZ : Hid ((tnth four r).size ≤ 4) := hz4
      generalize tnth four r = z at HZ ⊢
      clear HO HSr HG g2 s2 hz4
      go_wp2_with (at_builtin; go_must (refine list_text (by rfl) _ _ 64 (by rfl) i0 Try.underlying64 hi hz0 hz1 hz2 w.heap.size p w w2 _ _ _ (by rfl) o2 gg rfl (by rfl) hln ?_; intro v3 w3 o3 g3 k3))
      have S3 := S2.out.kept (k3 p hp) (fun k hk => k3 k (by omega))
      refine ⟨⟨k + 1, ts ++ [z], by omega, val_eq (by omega), o3, by simp [hlen], ?_, S3, g3⟩, by simp [intOf]; omega⟩
      intro t ht
      rcases List.mem_append.1 ht with h | h
      · exact HT.out t h
      · simp at h; subst h; exact HZ.out
    · have hlt' : ¬ (0 : Int) < (n : Int) - k := by omega
      have HSr : Hid (Src B wr p xs (K + 6)) := by
        obtain ⟨v, a, s, q1, q2, q3, q4⟩ := hs
        exact ⟨v, a, s, q1, q2, by omega, q4⟩
      clear hs
      go_wp2
      go_ret
      exact ⟨_, rfl, ts, ho, by omega, HT.out, HSr.out, hg⟩

set_option maxHeartbeats 400000 in
theorem TextsOf_any (v : Value) (xs : List Int) (w : World) (h : RowB w v xs) (hx : xs.length ≤ 1048576) :
    Calls Try.prog 56 #[v] w fun e w' => ∃ v' ts, e = .returned v' ∧ OwnS w' w.heap.size v' ts ∧ ts.length ≤ 5 ∧ (∀ t ∈ ts, t.size ≤ 4) ∧ Below w.heap.size w w' := by
  have HR : Hid (RowB w v xs) := h
  clear h
  go_enter Try.func56, Try.ntmps56
  go_wp2_with fail
  refine (source_any _ xs _ HR.out hx).mono ?_
  rintro e w1 ⟨rfl, s1, b1⟩
  have hp1 := s1.lt
  have S1 : Hid (Src w.heap.size w1 w.heap.size xs 0) := s1
  clear s1
  go_wp2_with fail
  refine (texts_any w.heap.size w.heap.size 0 xs _ S1.out (Nat.le_refl _) (by decide) hx).mono ?_
  rintro e w2 ⟨v2, ts, rfl, o2, h5, h4, _, g2⟩
  have O2 : Hid (OwnS w2 w.heap.size v2 ts) := OwnS.mono o2 b1.size
  have B2 : Below w.heap.size w w2 := ⟨g2.os.trans b1.os, g2.tape.trans b1.tape, g2.output.trans b1.output, Nat.le_trans b1.size g2.size, fun k hk => (below_kept g2 (Nat.le_refl _) hp1 k hk).trans (b1.block k hk)⟩
  have H5 : Hid (∀ _ : Unit, ts.length ≤ 5 ∧ ∀ t ∈ ts, t.size ≤ 4) := fun _ => ⟨h5, h4⟩
  clear o2 g2 b1 h5 h4 S1
  go_wp2_with fail
  go_ret
  exact ⟨_, ts, rfl, O2.out, (H5.out ()).1, (H5.out ()).2, B2⟩
end Go.Proofs.Ytmafigajapkmnaa.Gn
