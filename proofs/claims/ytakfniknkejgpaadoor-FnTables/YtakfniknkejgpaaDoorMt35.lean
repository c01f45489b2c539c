/- Texts put together: Gd, Fe, Ff. -/
import Derived.Test.YtakfniknkejgpaaDoorMt33
import Derived.Test.YtakfniknkejgpaaDoorMt34
import Derived.Test.YtakfniknkejgpaaDoorMt25
/- Requests that the source draws. -/
namespace Go.Proofs.YtakfniknkejgpaaDoor.Gn
open Go.RowKit Go.Proofs.YtakfniknkejgpaaDoor.Sl Go.Proofs.YtakfniknkejgpaaDoor.By Go.Proofs.YtakfniknkejgpaaDoor.Ap Go.Proofs.YtakfniknkejgpaaDoor.Rq Go.Proofs.YtakfniknkejgpaaDoor.Rr Go.Proofs.YtakfniknkejgpaaDoor.Ty

theorem Src.set {B p b K : Nat} {w : World} {xs : List Int} (h : Src B w p xs K) (hb : p ≠ b) (hB : B ≤ b) (i : Nat) (x : Value) : Src B (w.setCell ⟨b, i, none⟩ x) p xs K :=
 h.kept (blk_far hb i x) (fun k hk => blk_far (by omega) i x)
theorem req_ok {c st k l : Int} {n : ByteArray} (h1 : inB c 0 255 = true) (h2 : inB st 1 65535 = true) (h3 : leB k l = true) (h4 : opB n = true) : reqB c st k l n = true := by
 unfold reqB; rw [h1, h2, h3, h4]; rfl
theorem Src.le {B p K K' : Nat} {w : World} {xs : List Int} (h : Src B w p xs K) (hk : K ≤ K') : Src B w p xs K' := by
 obtain ⟨v, a, s, q1, q2, q3, q4⟩ := h
 exact ⟨v, a, s, q1, q2, by omega, q4⟩
set_option maxHeartbeats 400000 in
theorem chance_any (n p B K : Nat) (xs : List Int) (w : World) (h : Src B w p xs K) (hB : B ≤ p) (hK : K ≤ 1000000000) (hx : xs.length ≤ 1048600) (hn : 0 < n) (hn2 : n ≤ 256) :
 Calls Tryd.prog 78 #[.pointer (some ⟨p, 0, none⟩), .int .i64 n] w fun e w' => ∃ b : Bool, e = .returned (.bool b) ∧ Src B w' p xs (K + 1) ∧ w.grownBy w' (some p) := by
 have hn3 : (n : Int) ≤ 256 := by omega
 go_enter Tryd.func78, Tryd.ntmps78
 go_wp2_with fail
 refine (next_any n p B K xs _ h hB hK hx hn hn2).mono ?_
 rintro e w1 ⟨r, rfl, hr, s1, g1⟩
 have S1 : Hid (Src B w1 p xs (K + 1)) := s1
 clear s1 h
 go_wp2_with fail
 go_ret
 exact ⟨_, rfl, S1.out, g1⟩
def lk3 : List ByteArray := [⟨#[97]⟩, ⟨#[98]⟩, ⟨#[108, 111, 99, 107]⟩]
theorem lk3_ok (r : Nat) (h : r < 3) : opB (tnth lk3 r) = true := by
 match r, h with
 | 0, _ => decide
 | 1, _ => decide
 | 2, _ => decide
end Go.Proofs.YtakfniknkejgpaaDoor.Gn

/- Requests that come again; tables at rest. -/
namespace Go.Proofs.YtakfniknkejgpaaDoor.Da
open Go.RowKit Go.Proofs.YtakfniknkejgpaaDoor.Tb Go.Proofs.YtakfniknkejgpaaDoor.Tw Go.Proofs.YtakfniknkejgpaaDoor.Tp Go.Proofs.YtakfniknkejgpaaDoor.Rq

theorem fiP_first {α : Type} {p : α → Bool} : ∀ (xs : List α) (k : Nat), fiP p xs = some k → ∀ (j : Nat) (y : α), j < k → xs[j]? = some y → p y = false
 | [], k, h, _, _, _, _ => by simp [fiP] at h
 | z :: r, k, h, j, y, hj, hy => by
   unfold fiP at h
   by_cases e : p z = true
   ·rw [if_pos e] at h; cases h; omega
   ·rw [if_neg e] at h
    obtain ⟨m, hm, rfl⟩ := Option.map_eq_some_iff.1 h
    cases j with
    | zero => simp at hy; subst hy; simpa using e
    | succ j => exact fiP_first r m hm j y (by omega) (by simpa using hy)
end Go.Proofs.YtakfniknkejgpaaDoor.Da

/- Locks behind a request: their tokens never fall; who loses one lets it go, or its lease is over. -/
namespace Go.Proofs.YtakfniknkejgpaaDoor.Da
open Go.RowKit Go.Proofs.YtakfniknkejgpaaDoor.Tb Go.Proofs.YtakfniknkejgpaaDoor.Tw Go.Proofs.YtakfniknkejgpaaDoor.Tp Go.Proofs.YtakfniknkejgpaaDoor.Rq

end Go.Proofs.YtakfniknkejgpaaDoor.Da
