/- What FnLamport asks of both sides at a good draw, as one sentence. -/
import Derived.Test.YtjggfholjdplbaaDoorLm
import Derived.Test.YtjggfholjdplbaaDoorCr2
import Derived.Test.YtjggfholjdplbaaDoorMb2
import Derived.Test.YtjggfholjdplbaaDoorCs3
import Derived.Test.YtjggfholjdplbaaDoorCs5
import Derived.Deep.RegionLaw
import Derived.Deep.RegionHeld3
import Derived.Deep.CutRange
import Derived.Deep.DeepCutAuto
import Derived.BigRegion
namespace Go.Proofs.YtjggfholjdplbaaDoor.Lm
open Go.RowKit Go.Proofs.YtjggfholjdplbaaDoor.Sl Go.Proofs.YtjggfholjdplbaaDoor.By Go.Proofs.YtjggfholjdplbaaDoor.Ap Go.Proofs.YtjggfholjdplbaaDoor.Tx Go.Proofs.YtjggfholjdplbaaDoor.Sh Go.Proofs.YtjggfholjdplbaaDoor.Ho Go.Proofs.YtjggfholjdplbaaDoor.Se Go.Proofs.YtjggfholjdplbaaDoor.Ka Go.Proofs.YtjggfholjdplbaaDoor.Sx Go.Proofs.YtjggfholjdplbaaDoor.Hf Go.Proofs.YtjggfholjdplbaaDoor.Sa Go.Proofs.YtjggfholjdplbaaDoor.Kx Go.Proofs.YtjggfholjdplbaaDoor.Mb Go.Proofs.YtjggfholjdplbaaDoor.Sg Go.Proofs.YtjggfholjdplbaaDoor.Cs Go.Proofs.YtjggfholjdplbaaDoor.Lv Go.Proofs.YtjggfholjdplbaaDoor.Cr Go.Proofs.YtjggfholjdplbaaDoor.Pa

theorem row_form {w : World} {v : Value} {ts : List ByteArray} {n : Nat} (h : RowT w v ts) (hn : ts.length = n) (h0 : 0 < n) : ∃ b off c, v = .slice (some ⟨b, off, none⟩) n c := by
  obtain ⟨a, c, e, h⟩ := h
  rcases h with h | ⟨b, off, rfl, _⟩
  · rw [h] at hn; exact absurd hn (by show ¬ 0 = n; omega)
  · rw [hn] at e; exact ⟨b, off, c, e⟩
theorem row_at {w : World} {b off n c : Nat} {ts : List ByteArray} {i : Nat} (h : RowT w (.slice (some ⟨b, off, none⟩) n c) ts) (hi : i < ts.length) : w.cell? ⟨b, off + i, none⟩ = some (.string (tnth ts i)) := by
  obtain ⟨a, c', e, h⟩ := h
  rcases h with h | ⟨b', off', e', _, _, hc⟩
  · rw [h] at hi; exact absurd hi (by simp)
  · subst e'
    cases e
    exact hc i hi
def Said (f : Nat) (args : Array Value) (x : Value) : Prop := ∀ W, KTab W → 0 < W.heap.size → Calls Tryd.prog f args W fun e w' => e = .returned x ∧ Below W.heap.size W w'
theorem lam_good (s msg : ByteArray) (k : Nat) (hs : s.size = 32) (hm : msg.size ≤ 20) (hk : k < 8) : ∃ (root bits : ByteArray) (ta tb tc : List ByteArray),
    (ta.length = 32 ∧ tb.length = 32 ∧ tc.length = 3 ∧ bits.size = 32) ∧
    ((∀ t ∈ ta, t.size ≤ maxLen) ∧ (∀ t ∈ tb, t.size ≤ maxLen) ∧ ∀ t ∈ tc, t.size ≤ maxLen) ∧
    Said 19 #[.string s] (.tuple #[.string root, .int .i64 0]) ∧
    Said 18 #[.string s] (.tuple #[.string root, .int .i64 0]) ∧
    (∀ W, KTab W → 0 < W.heap.size → Calls Tryd.prog 21 #[.string s, .int .i64 k, .string msg] W fun e w' => ∃ va vb vc, e = .returned (.tuple #[.agg #[.int .i64 k, va, vb, vc], .int .i64 0]) ∧ SigV w' W.heap.size va vb vc ta tb tc ∧ Below W.heap.size W w') ∧
    (∀ W, Calls Tryd.prog 20 #[.string s, .int .i64 k, .string msg] W fun e w' => ∃ va vb vc, e = .returned (.tuple #[.agg #[.int .i64 k, va, vb, vc], .int .i64 0]) ∧ SigV w' W.heap.size va vb vc ta tb tc ∧ Below W.heap.size W w') ∧
    vC root msg (k : Int) ta tb tc = 0 ∧
    Said 13 #[.string msg] (.tuple #[.string bits, .int .i64 0]) ∧
    (∀ j, j < 32 → ∀ hb : j < bits.size, ∃ (b : Nat) (o : ByteArray), (b = 0 ∨ b = 1) ∧ ((bits[j]'hb).toNat : Int) = 48 + (b : Int) ∧ tnth tb j = hashS (bys o) ∧
      Said 15 #[.string s, .int .i64 k, .int .i64 j, .int .i64 b] (.tuple #[.string (tnth ta j), .int .i64 0]) ∧
      Said 15 #[.string s, .int .i64 k, .int .i64 j, .int .i64 ((1 - b : Nat) : Int)] (.tuple #[.string o, .int .i64 0])) := by
  have hm' : ¬ 65530 < msg.size := by omega
  have h7 : inR (k : Int) 0 7 = true := by unfold inR; rw [decide_eq_true (by omega), decide_eq_true (by omega)]; rfl
  have hkf : kf s (k : Int) = 0 := by
    unfold kf
    rw [hf_ok hs, if_pos rfl, h7]
    rfl
  have hmc : mbCode msg = 0 := if_neg hm'
  obtain ⟨f1, f2, f3, f4, f5⟩ := g_good (s := s) (i := (k : Int)) (msg := msg) (by unfold gC; rw [hmc, if_pos rfl]; exact hkf)
  rw [Int.toNat_natCast] at f3 f4 f5
  have hro : rOut s = rootS s := if_pos (hf_ok hs)
  have hmo : mbOut msg = mbits msg := if_neg hm'
  have hsec : ∀ (j b : Nat), j < 32 → (b = 0 ∨ b = 1) → Said 15 #[.string s, .int .i64 k, .int .i64 j, .int .i64 b] (.tuple #[.string (sec s k j b), .int .i64 0]) := fun j b hj hb W h1 h2 => by
    have h := implSecretAt_any s (k : Int) (j : Int) (b : Int) W h1 h2
    have hj' : inR (j : Int) 0 31 = true := by unfold inR; rw [decide_eq_true (by omega), decide_eq_true (by omega)]; rfl
    have hb' : inR (b : Int) 0 1 = true := by unfold inR; rw [decide_eq_true (by omega), decide_eq_true (by omega)]; rfl
    have hc : sCode s (k : Int) (j : Int) (b : Int) = 0 := by unfold sCode; rw [hkf, if_pos rfl, hj', hb']; rfl
    have ho : sOut s (k : Int) (j : Int) (b : Int) = sec s k j b := by unfold sOut; rw [if_pos hc, Int.toNat_natCast, Int.toNat_natCast, Int.toNat_natCast]
    rw [hc, ho] at h
    exact h
  have hle : (32 : Nat) ≤ maxLen := by decide
  refine ⟨rootS s, mbits msg, onesTo s k (dig msg) 32, restTo s k (dig msg) 32, pathN 3 (keysTo s 8) k, ⟨onesTo_length _ _ _ _, restTo_length _ _ _ _, pathN_length _ _ _, mbits_size msg⟩, ⟨fun t ht => ?_, fun t ht => ?_, fun t ht => ?_⟩, fun W h1 h2 => ?_, fun W _ _ => ?_, fun W h1 h2 => ?_, fun W => ?_, signed_ok s msg k hs (by omega) hk, fun W h1 h2 => ?_, fun j hj hb => ?_⟩
  · rw [ones_all s k (dig msg) (by omega) 32 t ht]; exact hle
  · rw [rest_all s k (dig msg) (by omega) 32 t ht]; exact hle
  · rw [path_all _ 3 (by decide) (keys32 s (by omega)) k hk t ht]; exact hle
  · have h := implChainRoot_any s W h1 h2
    rw [hro, hf_ok hs] at h
    exact h
  · have h := specChainRoot_any s W
    rw [hro, hf_ok hs] at h
    exact h
  · have h := implSignAt_any s msg (k : Int) W h1 h2
    rw [f1, f2, f3, f4, f5] at h
    exact h
  · have h := specSignAt_any s msg (k : Int) W
    rw [f1, f2, f3, f4, f5] at h
    exact h
  · have h := implMessageBits_any msg W h1 h2
    rw [hmo, hmc] at h
    exact h
  · obtain ⟨h4, h5⟩ := bn_two (dig msg) j
    refine ⟨bn (dig msg) j, sec s k j (1 - bn (dig msg) j), h4, ?_, rest_at s k (dig msg) 32 j hj, ?_, hsec j _ hj (by omega)⟩
    · rw [mb_at msg (mbits msg) rfl j hj hb, h5]
    · rw [ones_at s k (dig msg) 32 j hj]
      exact hsec j _ hj h4
end Go.Proofs.YtjggfholjdplbaaDoor.Lm
