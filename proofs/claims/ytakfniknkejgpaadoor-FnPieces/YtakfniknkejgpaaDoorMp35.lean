/- Texts put together: Fe, Ff, Fg. -/
import Derived.Test.YtakfniknkejgpaaDoorMp24
/- Requests that come again; tables at rest. -/
namespace Go.Proofs.YtakfniknkejgpaaDoor.Da
open Go.RowKit Go.Proofs.YtakfniknkejgpaaDoor.Tb Go.Proofs.YtakfniknkejgpaaDoor.Tw Go.Proofs.YtakfniknkejgpaaDoor.Tp Go.Proofs.YtakfniknkejgpaaDoor.Rq

theorem fiP_first {α : Type} {p : α → Bool} : ∀ (xs : List α) (k : Nat), fiP p xs = some k → ∀ (j : Nat) (y : α), j < k → xs[j]? = some y → p y = false
 | [], k, h, _, _, _, _ => by simp [fiP] at h
 | z :: r, k, h, j, y, hj, hy => by
   unfold fiP at h
   by_cases e : p z = true
   ·rw [if_pos e] at h; cases h; omega
   ·rw [if_neg e] at h
    obtain ⟨m, hm, rfl⟩ := Option.map_eq_some_iff.1 h
    cases j with
    | zero => simp at hy; subst hy; simpa using e
    | succ j => exact fiP_first r m hm j y (by omega) (by simpa using hy)
end Go.Proofs.YtakfniknkejgpaaDoor.Da

/- Locks behind a request: their tokens never fall; who loses one lets it go, or its lease is over. -/
namespace Go.Proofs.YtakfniknkejgpaaDoor.Da
open Go.RowKit Go.Proofs.YtakfniknkejgpaaDoor.Tb Go.Proofs.YtakfniknkejgpaaDoor.Tw Go.Proofs.YtakfniknkejgpaaDoor.Tp Go.Proofs.YtakfniknkejgpaaDoor.Rq

end Go.Proofs.YtakfniknkejgpaaDoor.Da

/- Grants that a request makes: their tokens are new, and no two are alike. -/
namespace Go.Proofs.YtakfniknkejgpaaDoor.Da
open Go.RowKit Go.Proofs.YtakfniknkejgpaaDoor.Tb Go.Proofs.YtakfniknkejgpaaDoor.Tw Go.Proofs.YtakfniknkejgpaaDoor.Tp Go.Proofs.YtakfniknkejgpaaDoor.Rq

theorem op_less {n : ByteArray} (h : opB n = true) : less ⟨#[]⟩ n = true := by
 have h1 : 1 ≤ n.size := by
  unfold opB at h
  rw [Bool.and_eq_true] at h
  have h2 := h.2
  unfold Nm.nameB at h2
  exact (of_decide_eq_true h2).1
 rw [← after_iff]
 have e : (⟨#[]⟩ : ByteArray).toList = [] := by rw [Lib.toList_data]
 rw [e]
 cases hn : n.toList with
 | nil =>
   rw [Lib.toList_data] at hn
   have h2 : n.data.toList.length = 0 := by rw [hn]; rfl
   rw [Array.length_toList] at h2
   have e2 : n.size = n.data.size := rfl
   omega
 | cons a r => simp [Op.bytesLess]
end Go.Proofs.YtakfniknkejgpaaDoor.Da
