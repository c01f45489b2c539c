/- The words of a line, of the specification. -/
import Derived.Test.YtlhokhccjejcoaaRla
import Derived.Deep.Cut
namespace Go.Proofs.Ytlhokhccjejcoaa.Rl16
open Go.RowKit Go.Lib Go.Proofs.Ytlhokhccjejcoaa.Ap Go.Proofs.Ytlhokhccjejcoaa.Tx

theorem own0 (w : World) : OwnS (w.alloc (.cells #[] 9)) w.heap.size (.slice (some ⟨w.heap.size, 0, none⟩) 0 0) [] := ⟨rfl, .inr ⟨w.heap.size, 0, #[], rfl, Nat.le_refl _, heap_alloc_new w _, Nat.le_refl _, by unfold maxLen; decide, rfl, rfl⟩⟩
theorem byte32 {b : UInt8} : ((b.toNat : Int) == 32) = (b == 32) := by
  rw [Bool.eq_iff_iff, beq_iff_eq, beq_iff_eq]
  exact ⟨fun h => UInt8.toNat_inj.1 (by show _ = 32; omega), fun h => by rw [h]; rfl⟩
def wI (t : ByteArray) (ts : List ByteArray) (k q : Nat) : Prop := ts ++ wdF t (t.size + 1 - k) k q = words t
theorem wI.last {t : ByteArray} {ts : List ByteArray} {k q : Nat} (h : wI t ts k q) (hk : t.size < k) : ts = words t := by
  unfold wI at h
  rw [show t.size + 1 - k = 0 by omega] at h
  simpa [wdF] using h
theorem wI.word {t : ByteArray} {ts : List ByteArray} {k q : Nat} (h : wI t ts k q) (hk : k ≤ t.size) (hb : k = t.size ∨ t.get! k = 32) (hq : q < k) : wI t (ts ++ [t.extract q k]) (k + 1) (k + 1) := by
  unfold wI at h ⊢
  rw [show t.size + 1 - k = (t.size + 1 - (k + 1)) + 1 by omega] at h
  unfold wdF at h
  by_cases e : t.size ≤ k
  · rw [if_pos e, if_pos hq] at h
    rw [show t.size + 1 - (k + 1) = 0 by omega]
    simpa [wdF] using h
  · rw [if_neg e, if_pos (hb.resolve_left (by omega)), if_pos hq] at h
    rw [List.append_assoc]
    exact h
theorem wI.gap {t : ByteArray} {ts : List ByteArray} {k q : Nat} (h : wI t ts k q) (hk : k ≤ t.size) (hb : k = t.size ∨ t.get! k = 32) (hq : ¬ q < k) : wI t ts (k + 1) (k + 1) := by
  unfold wI at h ⊢
  rw [show t.size + 1 - k = (t.size + 1 - (k + 1)) + 1 by omega] at h
  unfold wdF at h
  by_cases e : t.size ≤ k
  · rw [if_pos e, if_neg hq] at h
    rw [show t.size + 1 - (k + 1) = 0 by omega]
    simpa [wdF] using h
  · rw [if_neg e, if_pos (hb.resolve_left (by omega)), if_neg hq] at h
    exact h
theorem wI.more {t : ByteArray} {ts : List ByteArray} {k q : Nat} (h : wI t ts k q) (hk : k < t.size) (hb : t.get! k ≠ 32) : wI t ts (k + 1) q := by
  unfold wI at h ⊢
  rw [show t.size + 1 - k = (t.size + 1 - (k + 1)) + 1 by omega] at h
  unfold wdF at h
  rw [if_neg (by omega), if_neg hb] at h
  exact h
set_option maxRecDepth 100000 in
set_option maxHeartbeats 1600000 in
theorem l00Words_any (t : ByteArray) (w : World) (ht : t.size ≤ 70000) :
    Calls Try.prog 7 #[.string t] w fun e w' => ∃ v, e = .returned v ∧ RowT w' v (words t) ∧ Below w.heap.size w w' := by
  obtain ⟨i0, hi0, hz0, hz1, hz2⟩ := info_parts info9
  have HT : Hid (t.size ≤ 70000) := ht
  have htI : (t.size : Int) ≤ 70000 := by omega
  clear ht
  go_enter Try.func7, Try.ntmps7
  go_wp2_with fail
  go_loopw [3, 4, 5] (fun u f i wr => ∃ (k q : Nat) (ts : List ByteArray), k ≤ t.size + 1 ∧ q ≤ k ∧ f = .int .i64 q ∧ i = .int .i64 k ∧ OwnS wr w.heap.size u ts ∧ Below w.heap.size w wr ∧ Hid (wI t ts k q ∧ ts.length ≤ k)) (fun _ _ i _ => t.size + 1 - (intOf i).toNat)
  case atStart => exact ⟨0, 0, [], by omega, by omega, rfl, rfl, own0 w, bel_new _ _, rfl, Nat.le_refl _⟩
  case round =>
    obtain ⟨k, q, ts, hk, hq, rfl, rfl, ho, hb, HC⟩ := hrel
    by_cases hlt : k ≤ t.size
    · have hI0 : (k : Int) ≤ (t.size : Int) := by omega
      have hq0 : (0 : Int) ≤ (q : Int) := by omega
      have HL : Hid (ts.length ≤ 1000000) := by show _ ≤ _; have := HC.out.2; have := HT.out; omega
      by_cases hend : k = t.size
      · have hE : ((k : Int) == (t.size : Int)) = true := beq_iff_eq.2 (by omega)
        by_cases hqk : q < k
        · have hQ : (q : Int) < (k : Int) := by omega
          have hQ2 : (q : Int) ≤ (k : Int) := by omega
          have HN : Hid (wI t (ts ++ [t.extract q k]) (k + 1) (k + 1)) := HC.out.1.word hlt (.inl hend) hqk
          clear hend hqk
          go_wp2_with (at_builtin; go_must (refine list_texts (by rfl) _ _ 36 (by rfl) i0 Try.underlying36 hi0 hz0 hz1 hz2 w.heap.size w wr _ _ [t.extract q k] _ 1 rfl rfl (by decide) (by rfl) ho hb hb.size (by rfl) HL.out ?_; intro v5 w5 o5 b5 _ _))
          exact ⟨⟨k + 1, k + 1, _, by omega, by omega, by go_num, by go_num, o5, b5, HN.out, by rw [List.length_append]; have := HC.out.2; simp; omega⟩, by simp [intOf]; omega⟩
        · have hQ : ¬ (q : Int) < (k : Int) := by omega
          have HN : Hid (wI t ts (k + 1) (k + 1)) := HC.out.1.gap hlt (.inl hend) hqk
          clear hend hqk
          go_wp2_with fail
          exact ⟨⟨k + 1, k + 1, ts, by omega, by omega, by go_num, by go_num, ho, hb, HN.out, by have := HC.out.2; omega⟩, by simp [intOf]; omega⟩
      · have hE : ((k : Int) == (t.size : Int)) = false := beq_eq_false_iff_ne.2 (by omega)
        have hlt2 : k < t.size := by omega
        have hI : (k : Int) < (t.size : Int) := by omega
        have hge := get_at t k hlt2
        by_cases h32 : t[k]'hlt2 = 32
        · have h32' : (((t[k]'hlt2).toNat : Int) == 32) = true := by rw [byte32]; simpa using h32
          by_cases hqk : q < k
          · have hQ : (q : Int) < (k : Int) := by omega
            have hQ2 : (q : Int) ≤ (k : Int) := by omega
            have HN : Hid (wI t (ts ++ [t.extract q k]) (k + 1) (k + 1)) := HC.out.1.word hlt (.inr (hge.trans h32)) hqk
            clear hend hqk h32 hge
            go_wp2_with (at_builtin; go_must (refine list_texts (by rfl) _ _ 36 (by rfl) i0 Try.underlying36 hi0 hz0 hz1 hz2 w.heap.size w wr _ _ [t.extract q k] _ 1 rfl rfl (by decide) (by rfl) ho hb hb.size (by rfl) HL.out ?_; intro v5 w5 o5 b5 _ _))
            exact ⟨⟨k + 1, k + 1, _, by omega, by omega, by go_num, by go_num, o5, b5, HN.out, by rw [List.length_append]; have := HC.out.2; simp; omega⟩, by simp [intOf]; omega⟩
          · have hQ : ¬ (q : Int) < (k : Int) := by omega
            have HN : Hid (wI t ts (k + 1) (k + 1)) := HC.out.1.gap hlt (.inr (hge.trans h32)) hqk
            clear hend hqk h32 hge
            go_wp2_with fail
            exact ⟨⟨k + 1, k + 1, ts, by omega, by omega, by go_num, by go_num, ho, hb, HN.out, by have := HC.out.2; omega⟩, by simp [intOf]; omega⟩
        · have h32' : (((t[k]'hlt2).toNat : Int) == 32) = false := by rw [byte32]; simpa using h32
          have HN : Hid (wI t ts (k + 1) q) := HC.out.1.more hlt2 (by rw [hge]; exact h32)
          clear hend h32 hge
          go_wp2_with fail
          exact ⟨⟨k + 1, q, ts, by omega, by omega, rfl, by go_num, ho, hb, HN.out, by have := HC.out.2; omega⟩, by simp [intOf]; omega⟩
    · have hI : ¬ (k : Int) ≤ (t.size : Int) := by omega
      have HN : Hid (ts = words t) := HC.out.1.last (by omega)
      go_wp2_with fail
      go_ret
      rw [← HN.out]
      exact ⟨_, rfl, ho.row, hb⟩
end Go.Proofs.Ytlhokhccjejcoaa.Rl16
