/- The specification's l05Find: the first lock of a name. -/
import Derived.Test.YtlgfeohoebmbcaaGreatTw4
namespace Go.Proofs.YtlgfeohoebmbcaaGreat.Lf
open Go.RowKit Go.Proofs.YtlgfeohoebmbcaaGreat.Sl Go.Proofs.YtlgfeohoebmbcaaGreat.By Go.Proofs.YtlgfeohoebmbcaaGreat.Ap Go.Proofs.YtlgfeohoebmbcaaGreat.Tx Go.Proofs.YtlgfeohoebmbcaaGreat.Tb Go.Proofs.YtlgfeohoebmbcaaGreat.Tw

theorem toList_ne {a b : ByteArray} (h : ¬ a = b) : (a.toList == b.toList) = false := by
  apply beq_eq_false_iff_ne.2
  intro hh
  rw [Lib.toList_data, Lib.toList_data] at hh
  apply h
  cases a
  cases b
  have h2 := Array.toList_inj.1 hh
  simp only at h2
  rw [h2]
/-- Where the first lock of a name lies, or -1. -/
def Fnd (ls : List Lk) (n : ByteArray) (r : Int) : Prop := (∃ (k : Nat) (x : Lk), r = k ∧ ls[k]? = some x ∧ x.n = n ∧ ∀ (j : Nat) (y : Lk), j < k → ls[j]? = some y → y.n ≠ n) ∨ (r = -1 ∧ ∀ (j : Nat) (y : Lk), ls[j]? = some y → y.n ≠ n)
set_option maxRecDepth 100000 in
set_option maxHeartbeats 800000 in
theorem l05Find_any (tm nx : Int) (vl vs : Value) (ls : List Lk) (n : ByteArray) (w : World) (hl : RowL w vl ls) (h1 : ls.length ≤ 1048576) :
    Calls Tryz.prog 105 #[tabV tm nx vl vs, .string n] w fun e w' => ∃ r, e = .returned (.int .i64 r) ∧ Fnd ls n r ∧ Below w.heap.size w w' := by
  obtain ⟨la, lc, rfl⟩ := RowG.slice hl
  have HX : Hid (∀ W, Below (w.alloc (.cells #[.int .i64 tm, .int .i64 nx, .slice la ls.length lc, vs] 30)).heap.size (w.alloc (.cells #[.int .i64 tm, .int .i64 nx, .slice la ls.length lc, vs] 30)) W → W.cell? ⟨w.heap.size, 2, none⟩ = some (.slice la ls.length lc) ∧ RowL W (.slice la ls.length lc) ls ∧ Below w.heap.size w W) := fun W hW => by
    have h1 := (hW.block w.heap.size (by simp)).trans (heap_alloc_new w _)
    exact ⟨(blk_cell h1 2 rfl).1, (hl.below (bel_new _ _)).below hW, (bel_new w _).trans (hW.mono (by simp))⟩
  clear hl
  unfold tabV
  go_enter Tryz.func105, Tryz.ntmps105
  go_upto_region 1 with fail
  generalize w.alloc (.cells #[.int .i64 tm, .int .i64 nx, .slice la ls.length lc, vs] 30) = wb at HX ⊢
  go_wp2_with fail
  go_loop [5] (fun i => ∃ k : Nat, k ≤ ls.length ∧ i = .int .i64 k ∧ Hid (∀ (j : Nat) (y : Lk), j < k → ls[j]? = some y → y.n ≠ n)) (fun i => ls.length - (intOf i).toNat)
  case atStart => exact ⟨0, by omega, rfl, fun j y hj => absurd hj (by omega)⟩
  case round =>
    obtain ⟨k, hk, rfl, HN⟩ := hrel
    obtain ⟨x2, hr, hb⟩ := HX.out wb (Below.refl _ _)
    have HB : Hid (Below w.heap.size w wb) := hb
    by_cases hlt : k < ls.length
    · obtain ⟨x, hx⟩ := Tw.get_at hlt
      obtain ⟨b, off, rfl, hbl, u, c0, c1, c2, c3, c4, c5⟩ := RowG.at hr rfl hx
      have HXX : Hid (ls[k]? = some x) := hx
      clear hx c5 hr hb c1 c2 c3 c4
      by_cases he : x.n = n
      · have hq : (x.n.toList == n.toList) = true := by rw [he]; simp
        go_wp2
        go_ret
        exact ⟨(k : Int), rfl, .inl ⟨k, x, rfl, HXX.out, he, HN.out⟩, HB.out⟩
      · have hq : (x.n.toList == n.toList) = false := toList_ne he
        go_wp2
        go_round
        case rel => exact ⟨k + 1, by omega, by go_num, fun j y hj hy => by
          by_cases e : j = k
          · subst e
            rw [HXX.out] at hy
            cases hy
            exact he
          · exact HN.out j y (by omega) hy⟩
        case measure => simp [intOf]; omega
    · obtain rfl : k = ls.length := by omega
      clear hr hb
      go_wp2
      go_ret
      exact ⟨-1, rfl, .inr ⟨rfl, fun j y hy => HN.out j y (Tw.lt_at hy) hy⟩, HB.out⟩
end Go.Proofs.YtlgfeohoebmbcaaGreat.Lf
