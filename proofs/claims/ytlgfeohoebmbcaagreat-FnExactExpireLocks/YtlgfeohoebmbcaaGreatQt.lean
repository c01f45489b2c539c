/- A region that draws its order, whose first operations only read and whose last ones stand behind all of them: one walk. -/
import Derived.Test.YtlgfeohoebmbcaaGreatRows
import Derived.StillTail
import Derived.BigQuiet
namespace Go.Proofs.YtlgfeohoebmbcaaGreat.Qt
open Go.RowKit

theorem still_of_quiet {P : Program} {ops : Array Oper} {w : World} {Q : Act → Prop} : ∀ (l : List Oper) (a : Act), wpQuiet P ops (fun w' => w' = w) Q l a → wpStill P ops w Q l a := by
  intro l
  induction l with
  | nil => intro a h; exact h
  | cons o rest ih =>
    intro a h
    unfold wpQuiet at h
    unfold wpStill
    by_cases hw : Region.wanted o (yielded ops a.tmps) = true
    · rw [if_pos hw] at h ⊢
      obtain ⟨v, hv, hn⟩ := h
      have h1 := hv w rfl
      have h2 := ih _ hn
      unfold Oper.still
      unfold Oper.quietAt at h1
      generalize (execOp a.eval o).run P w = r at h1
      cases r with
      | ok n w' =>
        cases n <;> simp only [Oper.quietUpon, Oper.stillUpon] at h1 ⊢
        case value u => obtain ⟨e1, e2⟩ := h1; rw [e2]; exact ⟨e1, h2⟩
        case skip => obtain ⟨e1, e2⟩ := h1; rw [← e2]; exact ⟨e1, h2⟩
        case enter f args => exact ⟨h1.1, v, h1.2, h2⟩
      | halt x w' => simp only [Oper.quietUpon] at h1
    · rw [if_neg hw] at h ⊢
      exact ih _ h

theorem region_quiet_tail {P : Program} {id : Nat} {Q : Exit → Act → World → Prop} {a : Act} {w : World} {l : List Oper} (n : Nat) (hm : P.follows .mixedOrders = true) (hB : Region.lexTailB .any l.toArray n = true)
    (h : wpQuiet P l.toArray (fun w' => w' = w.drew) (fun a' => wpList P l.toArray Q (l.drop n) a' w.drew) (l.take n) a) : (Code.region id l.toArray true).wp P Q a w :=
  wp_region_still_tail n hm hB (still_of_quiet _ _ h)
end Go.Proofs.YtlgfeohoebmbcaaGreat.Qt
