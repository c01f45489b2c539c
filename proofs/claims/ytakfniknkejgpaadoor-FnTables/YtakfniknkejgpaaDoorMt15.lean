/- Texts put together: Uo, Uq, Oft. -/
import Derived.Test.YtakfniknkejgpaaDoorMt14
import Derived.Test.YtakfniknkejgpaaDoorMt3
import Derived.Deep.RegionWith
import Derived.BigQuiet
/- The laws' marks on a table in memory of one's own: held; the table as a whole. -/
namespace Go.Proofs.YtakfniknkejgpaaDoor.Um
open Go.RowKit Go.Proofs.YtakfniknkejgpaaDoor.Sl Go.Proofs.YtakfniknkejgpaaDoor.By Go.Proofs.YtakfniknkejgpaaDoor.Ap Go.Proofs.YtakfniknkejgpaaDoor.Tb Go.Proofs.YtakfniknkejgpaaDoor.Tw
open Go.Proofs.YtakfniknkejgpaaDoor.Mw (mtext Wr Wr.lt Wr.below Wr.set Wr.cell MkW MkW.below set_same set_off Mid Mid.below)
open Go.Proofs.YtakfniknkejgpaaDoor.Ur (Mem Apart)
open Go.Proofs.YtakfniknkejgpaaDoor.Wa (OwnW OwnS)
open Go.Proofs.YtakfniknkejgpaaDoor.Lo (LkA uV OwnL own_block kind_ne clL atL)
open Go.Proofs.YtakfniknkejgpaaDoor.Tx (blk_cell blk_set blk_far bel_new size_new)

end Go.Proofs.YtakfniknkejgpaaDoor.Um

/- The laws' marks on a table in memory of one's own: the table as a whole. -/
namespace Go.Proofs.YtakfniknkejgpaaDoor.Um
open Go.RowKit Go.Proofs.YtakfniknkejgpaaDoor.Sl Go.Proofs.YtakfniknkejgpaaDoor.By Go.Proofs.YtakfniknkejgpaaDoor.Ap Go.Proofs.YtakfniknkejgpaaDoor.Tb Go.Proofs.YtakfniknkejgpaaDoor.Tw
open Go.Proofs.YtakfniknkejgpaaDoor.Mw (mtext Wr Wr.lt Wr.below MkW Mid Mid.below)
open Go.Proofs.YtakfniknkejgpaaDoor.Ur (Mem Apart)
open Go.Proofs.YtakfniknkejgpaaDoor.Wa (OwnW OwnS)
open Go.Proofs.YtakfniknkejgpaaDoor.Lo (LkA uV OwnL own_block kind_ne clL atL)
open Go.Proofs.YtakfniknkejgpaaDoor.Tx (blk_cell blk_set blk_far bel_new size_new)

def HeldT (W : World) (v2 v3 : Value) (ms : List LkA) (ss : List Sn) (a : Nat) : Prop :=
 (∃ ad cap, v2 = .slice ad ms.length cap ∧ (ms.length = 0 ∨ ∃ gl, ad = some ⟨gl, 0, none⟩ ∧ Mt W gl ms a ms.length)) ∧ ∃ ad cap, v3 = .slice ad ss.length cap ∧ (ss.length = 0 ∨ ∃ gs, ad = some ⟨gs, 0, none⟩ ∧ ss.length ≤ cap ∧ gs < W.heap.size ∧ Up W gs (off ms a ms.length) (ss.length * 6))
theorem HeldT.below {W W' : World} {v2 v3 : Value} {ms : List LkA} {ss : List Sn} {a : Nat} (h : HeldT W v2 v3 ms ss a) (hb : Below W.heap.size W W') : HeldT W' v2 v3 ms ss a := by
 obtain ⟨⟨a1, c1, e1, h1⟩, ⟨a2, c2, e2, h2⟩⟩ := h
 exact ⟨⟨a1, c1, e1, h1.imp id fun ⟨g, q1, q2⟩ => ⟨g, q1, q2.below hb⟩⟩, ⟨a2, c2, e2, h2.imp id fun ⟨g, q1, q2, q3, q4⟩ => ⟨g, q1, q2, Nat.lt_of_lt_of_le q3 hb.size, q4.below q3 hb⟩⟩⟩
theorem Mt.kept {W W' : World} {gl : Nat} {ms : List LkA} {a : Nat} (h : Mt W gl ms a ms.length) (hs : W.heap.size ≤ W'.heap.size) (hgl : W'.heap[gl]? = W.heap[gl]?) (hg : ∀ m ∈ ms, ∀ g, m.2.1 = some ⟨g, 0, none⟩ → g < W.heap.size → W'.heap[g]? = W.heap[g]?) : Mt W' gl ms a ms.length := by
 have kc : ∀ i v, W.cell? ⟨gl, i, none⟩ = some v → W'.cell? ⟨gl, i, none⟩ = some v := fun i v hv => (World.cell?_of_block (a := ⟨gl, i, none⟩) hgl).trans hv
 refine ⟨?_, fun j m hj => kc _ _ (h.u j m hj), fun j m hk hj => absurd (Tw.lt_at hj) (by omega), h.di, fun j m hk hj => ?_⟩
 ·obtain ⟨A, t, h1, h2⟩ := h.lb
  exact ⟨A, t, hgl.trans h1, h2⟩
 ·obtain ⟨⟨c0, c1, c2, c3⟩, hw⟩ := h.dn j m hk hj
  refine ⟨⟨kc _ _ c0, kc _ _ c1, kc _ _ c2, kc _ _ c3⟩, hw.imp id fun ⟨g, h1, h2, h3, h4, h5⟩ => ⟨g, h1, h2, h3, Nat.lt_of_lt_of_le h4 hs, fun q hq => ?_⟩⟩
  have hb := hg m (Tw.mem_at hj) g h1 h4
  exact ⟨(World.cell?_of_block (a := ⟨g, _, none⟩) hb).trans (h5 q hq).1, (World.cell?_of_block (a := ⟨g, _, none⟩) hb).trans (h5 q hq).2⟩
end Go.Proofs.YtakfniknkejgpaaDoor.Um

/- The specification's numbers out of texts. -/
namespace Go.Proofs.YtakfniknkejgpaaDoor.Of
open Go.RowKit Go.Proofs.YtakfniknkejgpaaDoor.Sl Go.Proofs.YtakfniknkejgpaaDoor.By Go.Proofs.YtakfniknkejgpaaDoor.Ap Go.Proofs.YtakfniknkejgpaaDoor.Rr

theorem bys_at (s : ByteArray) (i : Nat) (h : i < s.size) : nth (bys s) i = ((s[i]'h).toNat : Int) := by
 unfold nth bys
 have h' : i < s.data.toList.length := by simpa using h
 rw [List.getD_eq_getElem?_getD, List.getElem?_map, List.getElem?_eq_getElem h']
 rfl

set_option maxHeartbeats 400000 in
theorem l02Of_any (s : ByteArray) (w : World) (hs : s.size ≤ 4) :
 Calls Tryd.prog 94 #[.string s] w fun e w' => e = .returned (.int .i64 (beN (bys s))) ∧ w' = w := by
 have HS : Hid (s.size ≤ 4) := hs
 have hs4 : (s.size : Int) ≤ 4 := by omega
 clear hs
 go_enter Tryd.func94, Tryd.ntmps94
 go_wp2_with fail
 go_loop [3, 4] (fun n i => ∃ k : Nat, k ≤ s.size ∧ i = .int .i64 k ∧ n = .int .i64 (beN ((bys s).take k))) (fun _ i => s.size - (intOf i).toNat)
 case atStart => exact ⟨0, by omega, rfl, rfl⟩
 case round =>
  obtain ⟨k, hk, rfl, rfl⟩ := hrel
  by_cases hlt : k < s.size
  ·have hb := (s[k]'hlt).toNat_lt
   have HM : Hid (beN ((bys s).take (k + 1)) = beN ((bys s).take k) * 256 + ((s[k]'hlt).toNat : Int)) := by show _ = _; rw [take_succ_nth (by rw [bys_length]; exact hlt), beN_snoc, bys_at s k hlt]
   have hbn := beN_range ((bys s).take k) (fun x hx => bys_range s x (List.mem_of_mem_take hx))
   have hb2 : beN ((bys s).take k) < 16777216 := by
    have : (256 : Int) ^ ((bys s).take k).length ≤ 256 ^ 3 := by
     have h3 : ((bys s).take k).length ≤ 3 := by rw [List.length_take, bys_length]; have := HS.out; omega
     generalize ((bys s).take k).length = q at h3
     match q, h3 with
     | 0, _ => decide
     | 1, _ => decide
     | 2, _ => decide
     | 3, _ => decide
    have e : (256 : Int) ^ 3 = 16777216 := rfl
    omega
   generalize beN ((bys s).take k) = m at hbn hb2 HM
   have hb0 := hbn.1
   clear hbn
   go_wp2
   go_round
   case rel => exact ⟨k + 1, by omega, by go_num, val_eq (by rw [HM.out])⟩
   case measure => simp [intOf]; omega
  ·have HK : Hid (k = s.size) := by show _ = _; omega
   go_wp2
   go_ret
   refine ⟨?_, rfl⟩
   rw [HK.out, List.take_of_length_le (by rw [bys_length]; exact Nat.le_refl _)]
   rfl
end Go.Proofs.YtakfniknkejgpaaDoor.Of
