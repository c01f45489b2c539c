/- The laws' marks on tables whose waiters lie anywhere. -/
import Derived.Test.YtlgfeohoebmbcaaGreatJp
namespace Go.Proofs.YtlgfeohoebmbcaaGreat.Jn
open Go.RowKit Go.Proofs.YtlgfeohoebmbcaaGreat.Sl Go.Proofs.YtlgfeohoebmbcaaGreat.By Go.Proofs.YtlgfeohoebmbcaaGreat.Ap Go.Proofs.YtlgfeohoebmbcaaGreat.Tb Go.Proofs.YtlgfeohoebmbcaaGreat.Tw
open Go.Proofs.YtlgfeohoebmbcaaGreat.Mw (mtext markText_any Wr Wr.lt Wr.below Wr.set Wr.cell set_same set_off markNilW_any heldNilW_any Mid Mid.refl Mid.trans Mid.set Mid.below)
open Go.Proofs.YtlgfeohoebmbcaaGreat.Wa (OwnS OwnS.kept OwnS.lt OwnS.slice OwnS.below)
open Go.Proofs.YtlgfeohoebmbcaaGreat.Lo (LkA uV OwnL OwnL.kept OwnL.lt OwnL.slice own_block kind_ne clL atL Apart)
open Go.Proofs.YtlgfeohoebmbcaaGreat.Tx (blk_cell blk_set blk_far bel_new size_new)
open Go.Proofs.YtlgfeohoebmbcaaGreat.Jb (OwnO OwnO.kept OwnO.lt)

/-- A table's parts in memory of one's own. -/
structure MemO (W : World) (B : Nat) (v2 v3 : Value) (ms : List LkA) (ss : List Sn) : Prop where
  ol : OwnL W B v2 ms
  os : OwnS W B v3 ss
  ow : ∀ m ∈ ms, OwnO W B (uV m) m.1.ws
  ap : Apart ms
theorem MemO.kept {W W' : World} {B : Nat} {v2 v3 : Value} {ms : List LkA} {ss : List Sn} (h : MemO W B v2 v3 ms ss) (hk : ∀ g, B ≤ g → g < W.heap.size → W'.heap[g]? = W.heap[g]?) : MemO W' B v2 v3 ms ss :=
  ⟨h.ol.kept fun g hg => hk g (h.ol.lt g hg).1 (h.ol.lt g hg).2, h.os.kept fun g hg => hk g (h.os.lt g hg).1 (h.os.lt g hg).2, fun m hm => (h.ow m hm).kept fun g hg => hk g ((h.ow m hm).lt g hg).1 ((h.ow m hm).lt g hg).2, h.ap⟩
theorem own_blockO {W : World} {B : Nat} {v : Value} {ws : List Wt} (h : OwnO W B v ws) {g : Nat} (hg : v.ownBlock = some g) : ∃ c, W.heap[g]? = some (.cells c 111 (0, 0)) := by
  rcases h with ⟨rfl, _⟩ | ⟨k, o, cap, cur, rfl, _, h2, _⟩
  · cases hg
  · cases hg
    exact ⟨cur, h2⟩
theorem nilL_mark (ad : Option Addr) (cap a : Nat) (w : World) : Calls Tryz.prog 50 #[.slice ad 0 cap, .int .i64 a] w fun e w' => e = .returned (.int .i64 (a : Int)) ∧ w' = w := by
  go_enter Tryz.func50, Tryz.ntmps50
  go_wp2_with fail
  go_loopw [1, 5] (fun k i wr => k = .int .i64 (a : Int) ∧ i = .int .i64 0 ∧ wr = w) (fun _ _ _ => 0)
  case atStart => exact ⟨rfl, rfl, rfl⟩
  case round =>
    obtain ⟨rfl, rfl, rfl⟩ := hrel
    go_wp2
    go_ret
    exact ⟨rfl, rfl⟩
theorem nilL_held (ad : Option Addr) (cap a : Nat) (w : World) : Calls Tryz.prog 52 #[.slice ad 0 cap, .int .i64 a] w fun e w' => e = .returned (.int .i64 (a : Int)) ∧ w' = w := by
  go_enter Tryz.func52, Tryz.ntmps52
  go_wp2_with fail
  go_loopw [1, 5] (fun k i wr => k = .int .i64 (a : Int) ∧ i = .int .i64 0 ∧ wr = w) (fun _ _ _ => 0)
  case atStart => exact ⟨rfl, rfl, rfl⟩
  case round =>
    obtain ⟨rfl, rfl, rfl⟩ := hrel
    go_wp2
    go_ret
    exact ⟨rfl, rfl⟩
theorem nilS_mark (ad : Option Addr) (cap a : Nat) (w : World) : Calls Tryz.prog 51 #[.slice ad 0 cap, .int .i64 a] w fun e w' => e = .returned (.int .i64 (a : Int)) ∧ w' = w := by
  go_enter Tryz.func51, Tryz.ntmps51
  go_wp2_with fail
  go_loopw [1, 5] (fun k i wr => k = .int .i64 (a : Int) ∧ i = .int .i64 0 ∧ wr = w) (fun _ _ _ => 0)
  case atStart => exact ⟨rfl, rfl, rfl⟩
  case round =>
    obtain ⟨rfl, rfl, rfl⟩ := hrel
    go_wp2
    go_ret
    exact ⟨rfl, rfl⟩
theorem nilS_held (ad : Option Addr) (cap a : Nat) (w : World) : Calls Tryz.prog 53 #[.slice ad 0 cap, .int .i64 a] w fun e w' => e = .returned (.int .i64 (a : Int)) ∧ w' = w := by
  go_enter Tryz.func53, Tryz.ntmps53
  go_wp2_with fail
  go_loopw [1, 5] (fun k i wr => k = .int .i64 (a : Int) ∧ i = .int .i64 0 ∧ wr = w) (fun _ _ _ => 0)
  case atStart => exact ⟨rfl, rfl, rfl⟩
  case round =>
    obtain ⟨rfl, rfl, rfl⟩ := hrel
    go_wp2
    go_ret
    exact ⟨rfl, rfl⟩
/-- Rows that may be marked. -/
theorem mt_of {W : World} {B a : Nat} {v2 v3 : Value} {ms : List LkA} {ss : List Sn} (h : MemO W B v2 v3 ms ss) (hne : ms.length ≠ 0) : ∃ gl cap, v2 = .slice (some ⟨gl, 0, none⟩) ms.length cap ∧ B ≤ gl ∧ (∃ c, W.heap[gl]? = some (.cells c 95 (0, 0))) ∧ Mt W gl ms a 0 := by
  obtain ⟨hl, hh⟩ := h.ol
  rcases hh with ⟨_, h0⟩ | ⟨g, cap, cur, rfl, hB, hg, hc, _, hs, htk⟩
  · exact absurd h0 hne
  refine ⟨g, cap, rfl, hB, ⟨cur, hg⟩, ⟨cur, _, hg, by rw [hs]; exact Nat.mul_le_mul_right 5 hc⟩, fun j m hj => ?_, fun j m _ hj => ?_, fun i j x y hij hi hj q o o' hx hy => ?_, fun j m hk => absurd hk (by omega)⟩
  · rw [Joins.cell_of_block hg, ← Array.getElem?_toList]
    have h1 := atL ms j m 4 hj (by decide)
    have hlt := Tw.lt_at hj
    rw [← htk, List.getElem?_take, if_pos (by omega)] at h1
    rw [h1]
    rfl
  · rcases h.ow m (Tw.mem_at hj) with ⟨_, h0⟩ | ⟨q, o, cap', cur', e, hB', hg', hc', _, hs', _⟩
    · exact .inl (by rw [h0]; rfl)
    · unfold uV at e
      simp only [Value.slice.injEq, true_and] at e
      refine .inr ⟨q, o, e.1, fun e2 => ?_, by rw [e.2]; exact hc', ⟨cur', _, hg', Nat.le_trans (Nat.add_le_add_left (Nat.mul_le_mul_right 2 hc') o) hs'⟩⟩
      exact kind_ne hg' hg (by decide) e2
  · exact h.ap i j x y hi hj (Nat.ne_of_lt hij) q (by unfold uV; rw [hx]; rfl) (by unfold uV; rw [hy]; rfl)
/-- A table that bears marks. -/
def HeldT (W : World) (v2 v3 : Value) (ms : List LkA) (ss : List Sn) (a : Nat) : Prop :=
  (∃ ad cap, v2 = .slice ad ms.length cap ∧ (ms.length = 0 ∨ ∃ gl, ad = some ⟨gl, 0, none⟩ ∧ Mt W gl ms a ms.length)) ∧ ∃ ad cap, v3 = .slice ad ss.length cap ∧ (ss.length = 0 ∨ ∃ gs, ad = some ⟨gs, 0, none⟩ ∧ ss.length ≤ cap ∧ gs < W.heap.size ∧ Up W gs (off ms a ms.length) (ss.length * 6))
theorem HeldT.below {W W' : World} {v2 v3 : Value} {ms : List LkA} {ss : List Sn} {a : Nat} (h : HeldT W v2 v3 ms ss a) (hb : Below W.heap.size W W') : HeldT W' v2 v3 ms ss a := by
  obtain ⟨⟨a1, c1, e1, h1⟩, ⟨a2, c2, e2, h2⟩⟩ := h
  exact ⟨⟨a1, c1, e1, h1.imp id fun ⟨g, q1, q2⟩ => ⟨g, q1, q2.below hb⟩⟩, ⟨a2, c2, e2, h2.imp id fun ⟨g, q1, q2, q3, q4⟩ => ⟨g, q1, q2, Nat.lt_of_lt_of_le q3 hb.size, q4.below q3 hb⟩⟩⟩
theorem off_nil {ms : List LkA} {a : Nat} (h : ms.length = 0) : off ms a ms.length = a := by rw [h]; rfl
/-- Locks are marked. -/
theorem locks_mark {W : World} {B : Nat} {v2 v3 : Value} {ms : List LkA} {ss : List Sn} (h : MemO W B v2 v3 ms ss) (hn : ms.length ≤ 1000) (hw : ∀ m ∈ ms, m.1.ws.length ≤ 1000) :
    Calls Tryz.prog 50 #[v2, .int .i64 1] W fun e w' => e = .returned (.int .i64 (off ms 1 ms.length : Nat)) ∧ (∃ ad cap, v2 = .slice ad ms.length cap ∧ (ms.length = 0 ∨ ∃ gl, ad = some ⟨gl, 0, none⟩ ∧ Mt w' gl ms 1 ms.length)) ∧ W.heap.size ≤ w'.heap.size ∧ Below B W w' ∧ ∀ k, k < W.heap.size → (∀ c, W.heap[k]? ≠ some (.cells c 95 (0, 0))) → (∀ c, W.heap[k]? ≠ some (.cells c 111 (0, 0))) → w'.heap[k]? = W.heap[k]? := by
  by_cases h0 : ms.length = 0
  · obtain ⟨ad, cap, rfl⟩ := h.ol.slice
    rw [off_nil h0]
    rw [h0]
    refine (nilL_mark ad cap 1 W).mono ?_
    rintro e w' ⟨rfl, e2⟩
    rw [e2]
    exact ⟨rfl, ⟨ad, cap, rfl, .inl rfl⟩, Nat.le_refl _, Below.refl _ _, fun _ _ _ _ => rfl⟩
  · obtain ⟨gl, cap, rfl, hB, ⟨c, hg⟩, hT⟩ := mt_of (a := 1) h h0
    refine (markLocks_any gl cap ms 1 W hT hn hw (by decide) (by decide)).mono ?_
    rintro e w' ⟨rfl, m', g'⟩
    have key : ∀ m ∈ ms, ∀ k o, m.2.1 = some ⟨k, o, none⟩ → B ≤ k ∧ ∃ c, W.heap[k]? = some (.cells c 111 (0, 0)) := fun m hm k o hk => by
      have hu : (uV m).ownBlock = some k := by unfold uV; rw [hk]; rfl
      exact ⟨((h.ow m hm).lt k hu).1, own_blockO (h.ow m hm) hu⟩
    refine ⟨rfl, ⟨_, cap, rfl, .inr ⟨gl, rfl, m'⟩⟩, g'.size, ⟨g'.os, g'.tape, g'.output, g'.size, fun k hk => ?_⟩, fun k hk h1 h2 => ?_⟩
    · by_cases hl : k < W.heap.size
      · exact g'.block k hl (by omega) fun m hm o e => by have := (key m hm k o e).1; omega
      · exact absurd hg (by rw [Array.getElem?_eq_none (by omega)]; simp)
    · exact g'.block k hk (fun e => h1 c (by rw [e]; exact hg)) fun m hm o e => by
        obtain ⟨_, c', hc'⟩ := key m hm k o e
        exact h2 c' hc'
theorem Mt.kept {W W' : World} {gl : Nat} {ms : List LkA} {a : Nat} (h : Mt W gl ms a ms.length) (hs : W.heap.size ≤ W'.heap.size) (hgl : W'.heap[gl]? = W.heap[gl]?) (hg : ∀ m ∈ ms, ∀ g o, m.2.1 = some ⟨g, o, none⟩ → g < W.heap.size → W'.heap[g]? = W.heap[g]?) : Mt W' gl ms a ms.length := by
  have kc : ∀ i v, W.cell? ⟨gl, i, none⟩ = some v → W'.cell? ⟨gl, i, none⟩ = some v := fun i v hv => (World.cell?_of_block (a := ⟨gl, i, none⟩) hgl).trans hv
  refine ⟨?_, fun j m hj => kc _ _ (h.u j m hj), fun j m hk hj => absurd (Tw.lt_at hj) (by omega), h.di, fun j m hk hj => ?_⟩
  · obtain ⟨A, t, h1, h2⟩ := h.lb
    exact ⟨A, t, hgl.trans h1, h2⟩
  · obtain ⟨⟨c0, c1, c2, c3⟩, hw⟩ := h.dn j m hk hj
    refine ⟨⟨kc _ _ c0, kc _ _ c1, kc _ _ c2, kc _ _ c3⟩, hw.imp id fun ⟨g, o, h1, h2, h3, h4, h5⟩ => ⟨g, o, h1, h2, h3, Nat.lt_of_lt_of_le h4 hs, fun q hq => ?_⟩⟩
    have hb := hg m (Tw.mem_at hj) g o h1 h4
    exact ⟨(World.cell?_of_block (a := ⟨g, _, none⟩) hb).trans (h5 q hq).1, (World.cell?_of_block (a := ⟨g, _, none⟩) hb).trans (h5 q hq).2⟩
/-- Blocks that hold tables are as they were. -/
def TabK (w w' : World) : Prop := ∀ (k : Nat) (cs : Array Value), w.heap[k]? = some (.cells cs 30 (0, 0)) → w'.heap[k]? = some (.cells cs 30 (0, 0))
set_option maxRecDepth 100000 in
set_option maxHeartbeats 1600000 in
theorem markTable_any (tm nx : Int) (v2 v3 : Value) (ms : List LkA) (ss : List Sn) (B : Nat) (w : World) (h : MemO w B v2 v3 ms ss) (hB : B ≤ w.heap.size) (hn : ms.length ≤ 100) (hw : ∀ m ∈ ms, m.1.ws.length ≤ 1000) (hs : ss.length ≤ 100) :
    Calls Tryz.prog 12 #[tabV tm nx v2 v3, .int .i64 1] w fun e w' => e = .returned (.int .i64 ((off ms 1 ms.length + ss.length * 6 : Nat) : Int)) ∧ HeldT w' v2 v3 ms ss 1 ∧ Below B w w' ∧ TabK w w' := by
  have hoff := off_le (a := 1) hw ms.length (Nat.le_refl _)
  obtain ⟨wb, hwb⟩ : ∃ wb, wb = w.alloc (.cells #[.int .i64 tm, .int .i64 nx, v2, v3] 30) := ⟨_, rfl⟩
  have hbx : wb.heap[w.heap.size]? = some (.cells #[.int .i64 tm, .int .i64 nx, v2, v3] 30 (0, 0)) := by rw [hwb]; exact heap_alloc_new _ _
  have hbb : Below w.heap.size w wb := by rw [hwb]; exact bel_new _ _
  have hM : MemO wb B v2 v3 ms ss := h.kept fun g _ hg => hbb.block g hg
  have HAP : Hid (∀ g, v3.ownBlock = some g → v2.ownBlock ≠ some g ∧ ∀ m ∈ ms, ∀ o, m.2.1 ≠ some ⟨g, o, none⟩) := fun g hg => by
    obtain ⟨c1, e1⟩ := own_block h.os hg
    refine ⟨fun e => ?_, fun m hm o e => ?_⟩
    · obtain ⟨c2, e2⟩ := own_block h.ol e
      exact kind_ne e1 e2 (by decide) rfl
    · obtain ⟨c2, e2⟩ := own_blockO (h.ow m hm) (g := g) (by unfold uV; rw [e]; rfl)
      exact kind_ne e1 e2 (by decide) rfl
  have HL : Hid (Calls Tryz.prog 50 #[v2, .int .i64 1] wb fun e w' => e = .returned (.int .i64 (off ms 1 ms.length : Nat)) ∧ ((∃ ad cap, v2 = .slice ad ms.length cap ∧ (ms.length = 0 ∨ ∃ gl, ad = some ⟨gl, 0, none⟩ ∧ Mt w' gl ms 1 ms.length)) ∧ Below B w w' ∧ w'.cell? ⟨w.heap.size, 3, none⟩ = some v3 ∧ B ≤ w'.heap.size ∧ OwnS w' B v3 ss ∧ (∀ g, v3.ownBlock = some g → ∃ c, w'.heap[g]? = some (.cells c 113 (0, 0))) ∧ TabK w w')) := by
    refine (locks_mark hM (by omega) hw).mono ?_
    rintro e w' ⟨rfl, h1, h2, h3, h4⟩
    have hbz := (Array.getElem?_eq_some_iff.1 hbx).1
    have k1 := (h4 _ hbz (fun c e => kind_ne hbx e (by decide) rfl) (fun c e => kind_ne hbx e (by decide) rfl)).trans hbx
    have os : OwnS w' B v3 ss := hM.os.kept fun g hg => by
      obtain ⟨c1, e1⟩ := own_block hM.os hg
      exact h4 g (Array.getElem?_eq_some_iff.1 e1).1 (fun c e => kind_ne e1 e (by decide) rfl) (fun c e => kind_ne e1 e (by decide) rfl)
    exact ⟨rfl, h1, (hbb.mono hB).trans h3, (blk_cell k1 3 (x := v3) rfl).1, Nat.le_trans hB (Nat.le_trans hbb.size h2), os, fun g hg => own_block os hg, fun k cs hk => by
      have hk' := (hbb.block k (Array.getElem?_eq_some_iff.1 hk).1).trans hk
      exact (h4 k (Array.getElem?_eq_some_iff.1 hk').1 (fun c e => kind_ne hk' e (by decide) rfl) (fun c e => kind_ne hk' e (by decide) rfl)).trans hk'⟩
  have c2 := (blk_cell hbx 2 (x := v2) rfl).1
  have HS : Hid (∀ W : World, OwnS W B v3 ss → ∀ a : Nat, a ≤ 1000000 → Calls Tryz.prog 51 #[v3, .int .i64 a] W fun e w' => e = .returned (.int .i64 ((a + ss.length * 6 : Nat) : Int)) ∧ (∃ ad cap, v3 = .slice ad ss.length cap ∧ (ss.length = 0 ∨ ∃ gs, ad = some ⟨gs, 0, none⟩ ∧ ss.length ≤ cap ∧ gs < w'.heap.size ∧ Up w' gs a (ss.length * 6))) ∧ (∀ g, v3.ownBlock = some g → B ≤ g) ∧ W.heap.size ≤ w'.heap.size ∧ (w'.os = W.os ∧ w'.tape = W.tape ∧ w'.output = W.output) ∧ ∀ k, k < W.heap.size → some k ≠ v3.ownBlock → w'.heap[k]? = W.heap[k]?) := fun W os a ha => by
    have hlt := fun g hg => (os.lt g hg).1
    by_cases h0 : ss.length = 0
    · obtain ⟨ad, cap, rfl⟩ := os.slice
      rw [h0]
      refine (nilS_mark ad cap a W).mono ?_
      rintro e w' ⟨rfl, e2⟩
      rw [e2]
      exact ⟨by simp, ⟨ad, cap, rfl, .inl rfl⟩, fun g hg => hlt g (by rw [h0]; exact hg), Nat.le_refl _, ⟨rfl, rfl, rfl⟩, fun _ _ _ => rfl⟩
    · obtain ⟨_, hh⟩ := id os
      rcases hh with ⟨_, e0⟩ | ⟨g, cap, cur, rfl, hB', hg, hc, _, hsz, _⟩
      · exact absurd e0 h0
      refine (markSeens_any g ss.length cap a W ⟨cur, _, hg, by rw [hsz]; exact Nat.mul_le_mul_right 6 hc⟩ hc (by omega) ha).mono ?_
      rintro e w' ⟨rfl, hu, hm⟩
      refine ⟨rfl, ⟨_, cap, rfl, .inr ⟨g, rfl, hc, Nat.lt_of_lt_of_le (Array.getElem?_eq_some_iff.1 hg).1 hm.size, hu⟩⟩, hlt, hm.size, ⟨hm.os, hm.tape, hm.output⟩, fun k hk hn => hm.block k hk ?_⟩
      have : k ≠ g := fun e => hn (by rw [e]; rfl)
      omega
  obtain ⟨a2, l2, rfl⟩ := h.ol.slice
  obtain ⟨a3, l3, rfl⟩ := h.os.slice
  obtain ⟨o, HOO⟩ : ∃ o, Hid (off ms 1 ms.length = o) := ⟨_, rfl⟩
  rw [HOO.out] at HL hoff ⊢
  unfold tabV
  have HO2 : Hid (∀ _ : Unit, o ≤ 1000000) := fun _ => by omega
  clear h hM hbb hbx hB hw
  go_enter Tryz.func12, Tryz.ntmps12
  go_wp2_with fail
  rw [← hwb]
  clear hwb
  refine HL.out.mono ?_
  rintro e w1 ⟨rfl, hl, b1, c3, s1, os, ok, tk⟩
  have H1 : Hid ((∃ ad cap, Value.slice a2 ms.length l2 = .slice ad ms.length cap ∧ (ms.length = 0 ∨ ∃ gl, ad = some ⟨gl, 0, none⟩ ∧ Mt w1 gl ms 1 ms.length)) ∧ Below B w w1 ∧ B ≤ w1.heap.size ∧ (∀ g, (Value.slice a3 ss.length l3).ownBlock = some g → ∃ c, w1.heap[g]? = some (.cells c 113 (0, 0))) ∧ TabK w w1) := ⟨hl, b1, s1, ok, tk⟩
  have HS1 := HS.out w1 os o (HO2.out ())
  clear hl b1 s1 os ok tk HL HS
  go_wp2_with fail
  refine HS1.mono ?_
  rintro e w2 ⟨rfl, hh, hb, s2, ⟨q1, q2, q3⟩, kp⟩
  have HF : Hid (HeldT w2 (.slice a2 ms.length l2) (.slice a3 ss.length l3) ms ss 1 ∧ Below B w w2 ∧ TabK w w2) := by
    obtain ⟨hl, b1, s1, ok, tk⟩ := H1.out
    refine ⟨⟨?_, ?_⟩, ⟨q1.trans b1.os, q2.trans b1.tape, q3.trans b1.output, Nat.le_trans b1.size s2, fun k hk => (kp k (by omega) (fun e => by have := hb k e.symm; omega)).trans (b1.block k hk)⟩, fun k cs hk => (kp k (Array.getElem?_eq_some_iff.1 (tk k cs hk)).1 (fun e => by obtain ⟨c, e2⟩ := ok k e.symm; exact kind_ne (tk k cs hk) e2 (by decide) rfl)).trans (tk k cs hk)⟩
    · obtain ⟨ad, cap, e, h3⟩ := hl
      refine ⟨ad, cap, e, h3.imp id fun ⟨gl, e1, hT⟩ => ⟨gl, e1, ?_⟩⟩
      subst e1
      have e2 : a2 = some ⟨gl, 0, none⟩ := by
        have := e
        simp only [Value.slice.injEq, true_and] at this
        exact this.1
      exact hT.kept s2 (kp gl hT.lb.lt fun e => (HAP.out gl e.symm).1 (by rw [e2]; rfl)) fun m hm g o hg hlt => kp g hlt fun e => (HAP.out g e.symm).2 m hm o hg
    · rw [HOO.out]; exact hh
  clear hh hb kp H1 HS1
  go_wp2_with fail
  go_ret
  exact ⟨rfl, HF.out⟩
set_option maxRecDepth 100000 in
set_option maxHeartbeats 1600000 in
theorem heldTable_any (tm nx : Int) (v2 v3 : Value) (ms : List LkA) (ss : List Sn) (w : World) (h : HeldT w v2 v3 ms ss 1) (hn : ms.length ≤ 100) (hw : ∀ m ∈ ms, m.1.ws.length ≤ 1000) (hs : ss.length ≤ 100) :
    Calls Tryz.prog 13 #[tabV tm nx v2 v3, .int .i64 1] w fun e w' => e = .returned (.int .i64 ((off ms 1 ms.length + ss.length * 6 : Nat) : Int)) ∧ Below w.heap.size w w' := by
  have hoff := off_le (a := 1) hw ms.length (Nat.le_refl _)
  have HL : Hid (∀ W, Below w.heap.size w W → Calls Tryz.prog 52 #[v2, .int .i64 1] W fun e w' => e = .returned (.int .i64 (off ms 1 ms.length : Nat)) ∧ Below W.heap.size W w') := fun W hW => by
    obtain ⟨⟨ad, cap, rfl, h1⟩, _⟩ := h.below hW
    by_cases h0 : ms.length = 0
    · rw [off_nil h0]
      rw [h0]
      refine (nilL_held ad cap 1 W).mono ?_
      rintro e w' ⟨rfl, e2⟩
      rw [e2]
      exact ⟨rfl, Below.refl _ _⟩
    · obtain ⟨gl, rfl, hT⟩ := h1.resolve_left h0
      exact heldLocks_any gl cap ms 1 W hT (by omega) hw (by decide) (by decide)
  have HS : Hid (∀ W, Below w.heap.size w W → Calls Tryz.prog 53 #[v3, .int .i64 (off ms 1 ms.length : Nat)] W fun e w' => e = .returned (.int .i64 ((off ms 1 ms.length + ss.length * 6 : Nat) : Int)) ∧ W = w') := fun W hW => by
    obtain ⟨_, ⟨ad, cap, rfl, h1⟩⟩ := h.below hW
    by_cases h0 : ss.length = 0
    · rw [h0]
      refine (nilS_held ad cap (off ms 1 ms.length) W).mono ?_
      rintro e w' ⟨rfl, e2⟩
      exact ⟨by simp, e2.symm⟩
    · obtain ⟨gs, rfl, hc, _, hu⟩ := h1.resolve_left h0
      exact heldSeens_any gs ss.length cap _ W hu hc (by omega) (by omega)
  obtain ⟨⟨a2, l2, rfl, _⟩, ⟨a3, l3, rfl, _⟩⟩ := h
  obtain ⟨wb, hwb⟩ : ∃ wb, wb = w.alloc (.cells #[.int .i64 tm, .int .i64 nx, .slice a2 ms.length l2, .slice a3 ss.length l3] 30) := ⟨_, rfl⟩
  have hbx : wb.heap[w.heap.size]? = some (.cells #[.int .i64 tm, .int .i64 nx, .slice a2 ms.length l2, .slice a3 ss.length l3] 30 (0, 0)) := by rw [hwb]; exact heap_alloc_new _ _
  have HBB : Hid (Below w.heap.size w wb) := by rw [hwb]; exact bel_new _ _
  have c2 := (blk_cell hbx 2 (x := .slice a2 ms.length l2) rfl).1
  have HC3 : Hid (∀ W, Below wb.heap.size wb W → W.cell? ⟨w.heap.size, 3, none⟩ = some (.slice a3 ss.length l3)) := fun W hW => (hW.cell (p := ⟨w.heap.size, 3, none⟩) (Array.getElem?_eq_some_iff.1 hbx).1).trans (blk_cell hbx 3 (x := .slice a3 ss.length l3) rfl).1
  have h1 : ¬ ((off ms 1 ms.length : Nat) : Int) < 0 := by omega
  have h2 : ¬ ((off ms 1 ms.length + ss.length * 6 : Nat) : Int) < 0 := by omega
  generalize off ms 1 ms.length + ss.length * 6 = r at HS h2 ⊢
  generalize off ms 1 ms.length = o at HL HS h1 hoff
  unfold tabV
  clear hbx hw
  go_enter Tryz.func13, Tryz.ntmps13
  go_wp2_with fail
  rw [← hwb]
  clear hwb
  refine (HL.out wb HBB.out).mono ?_
  rintro e w1 ⟨rfl, b1⟩
  have c3 := HC3.out w1 b1
  have B1 : Below w.heap.size w w1 := HBB.out.trans (b1.mono HBB.out.size)
  clear b1
  go_wp2_with fail
  refine (HS.out w1 B1).mono ?_
  rintro e w2 ⟨rfl, rfl⟩
  go_wp2_with fail
  go_ret
  exact ⟨rfl, B1⟩
end Go.Proofs.YtlgfeohoebmbcaaGreat.Jn
