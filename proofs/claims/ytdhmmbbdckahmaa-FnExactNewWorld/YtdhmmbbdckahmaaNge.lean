/- New groups: the specification's NewGroup. -/
import Derived.Test.YtdhmmbbdckahmaaNgd
import Derived.Maps.AppendAt
namespace Go.Proofs.Ytdhmmbbdckahmaa.Ng
open Go.RowKit Go.Proofs.Ytdhmmbbdckahmaa.Rg Go.Proofs.Ytdhmmbbdckahmaa.Tm Go.Proofs.Ytdhmmbbdckahmaa.Nr Go.Proofs.Ytdhmmbbdckahmaa.Is
open Go.Proofs.Ytdhmmbbdckahmaa.So hiding bel_new
open Go.Proofs.Ytdhmmbbdckahmaa.Sl (nth)
open Go.Proofs.Ytdhmmbbdckahmaa.Qm (inB)
open Go.Proofs.Ytdhmmbbdckahmaa.Rr (grown_set grown_trans grown_refl grown_alloc)
/-- The specification's new replica k. -/
def SpO (B : Nat) (w : World) (n : Int) (k : Nat) (p : RV) : Prop := p.id = (k : Int) ∧ p.n = n ∧ ∃ us8 us, (OwnS w B (.slice p.sa 8 p.sc) us8 ∧ us8.length = 8) ∧ (OwnC w B (.slice p.ca 8 p.cc) us ∧ us.length = 8)
def SpP (B : Nat) (w : World) (n : Int) (ps : List RV) : Prop := ∀ (k : Nat) (p : RV), ps[k]? = some p → SpO B w n k p
theorem ownS_kind {w : World} {B k : Nat} {v : Value} {ms : List (Nat × Nat)} (h : OwnS w B v ms) (hk : v.ownBlock = some k) : ∃ cs, w.heap[k]? = some (.cells cs 112 (0, 0)) := by
  obtain ⟨_, h | ⟨g', cap', cur, he, _, hgg, _⟩⟩ := h
  · rw [h.1] at hk; simp [Value.ownBlock] at hk
  · rw [he] at hk
    simp [Value.ownBlock] at hk
    subst hk
    exact ⟨_, hgg⟩
theorem ownC_kind {w : World} {B k : Nat} {v : Value} {ms : List Nat} (h : OwnC w B v ms) (hk : v.ownBlock = some k) : ∃ cs, w.heap[k]? = some (.cells cs 106 (0, 0)) := by
  obtain ⟨_, h | ⟨g', cap', cur, he, _, hgg, _⟩⟩ := h
  · rw [h.1] at hk; simp [Value.ownBlock] at hk
  · rw [he] at hk
    simp [Value.ownBlock] at hk
    subst hk
    exact ⟨_, hgg⟩
theorem SpO.keep {B : Nat} {w w' : World} {n : Int} {k : Nat} {p : RV} (h : SpO B w n k p) (hk : ∀ (q : Nat) (cs : Array Value) (t : TypeId), w.heap[q]? = some (.cells cs t (0, 0)) → t ≠ 65 → t ≠ 27 → w'.heap[q]? = w.heap[q]?) : SpO B w' n k p := by
  obtain ⟨h1, h2, us8, us, ⟨h3, h4⟩, h5, h6⟩ := h
  refine ⟨h1, h2, us8, us, ⟨h3.kept fun g hg => ?_, h4⟩, h5.kept fun g hg => ?_, h6⟩
  · obtain ⟨cs, hc⟩ := ownS_kind h3 hg
    exact hk g cs _ hc (by decide) (by decide)
  · obtain ⟨cs, hc⟩ := ownC_kind h5 hg
    exact hk g cs _ hc (by decide) (by decide)
theorem SpO.below {B : Nat} {w w' : World} {n : Int} {k : Nat} {p : RV} (h : SpO B w n k p) (hb : Below w.heap.size w w') : SpO B w' n k p := h.keep fun q _ _ hc _ _ => hb.block q (Array.getElem?_eq_some_iff.1 hc).1
theorem SpO.mono {B B' : Nat} {w : World} {n : Int} {k : Nat} {p : RV} (h : SpO B w n k p) (hb : B' ≤ B) : SpO B' w n k p := by
  obtain ⟨h1, h2, us8, us, ⟨h3, h4⟩, h5, h6⟩ := h
  exact ⟨h1, h2, us8, us, ⟨OwnS.mono h3 hb, h4⟩, OwnC.mono h5 hb, h6⟩
/-- While a group is made: its box, what it owns, its replicas. -/
structure SIn (B x : Nat) (n : Int) (vf v3 v4 : Value) (xs : List Int) (w wr : World) (vr : Value) (ps : List RV) : Prop where
  z : wr.heap[B]? = some (.cells #[.int .i64 0, .slice none 0 0, .slice none 0 0, .slice none 0 0, .slice none 0 0] 27 (0, 0))
  g : wr.heap[x]? = some (.cells #[.int .i64 n, vf, vr, v3, v4] 27 (0, 0))
  f : OwnI wr B vf xs
  q : OwnQ wr B vr ps
  p : SpP B wr n ps
  b : Below B w wr
  hx : B < x
theorem SIn.below {B x : Nat} {n : Int} {vf v3 v4 : Value} {xs : List Int} {w wr w1 : World} {vr : Value} {ps : List RV} (h : SIn B x n vf v3 v4 xs w wr vr ps) (hb : Below wr.heap.size wr w1) : SIn B x n vf v3 v4 xs w w1 vr ps :=
  ⟨(hb.block _ (Array.getElem?_eq_some_iff.1 h.z).1).trans h.z, (hb.block _ (Array.getElem?_eq_some_iff.1 h.g).1).trans h.g, ownI_below h.f hb, h.q.below hb, fun k p hp => (h.p k p hp).below hb, h.b.trans (hb.mono (Nat.le_of_lt (Array.getElem?_eq_some_iff.1 h.z).1)), h.hx⟩
theorem bel_drew (w : World) : Below w.heap.size w w.drew := ⟨rfl, rfl, rfl, Nat.le_refl _, fun _ _ => rfl⟩
theorem SIn.alloc {B x : Nat} {n : Int} {vf v3 v4 : Value} {xs : List Int} {w wr : World} {vr : Value} {ps : List RV} (h : SIn B x n vf v3 v4 xs w wr vr ps) (o : Obj) : SIn B x n vf v3 v4 xs w (wr.alloc o) vr ps := h.below (bel_new _ _)
theorem SIn.drew {B x : Nat} {n : Int} {vf v3 v4 : Value} {xs : List Int} {w wr : World} {vr : Value} {ps : List RV} (h : SIn B x n vf v3 v4 xs w wr vr ps) : SIn B x n vf v3 v4 xs w wr.drew vr ps := h.below (bel_drew _)
theorem SIn.c2 {B x : Nat} {n : Int} {vf v3 v4 : Value} {xs : List Int} {w wr : World} {vr : Value} {ps : List RV} (h : SIn B x n vf v3 v4 xs w wr vr ps) : wr.cell? ⟨x, 2, none⟩ = some vr := (blk_cell h.g 2 (x := vr) rfl).1
theorem SIn.f2 {B x : Nat} {n : Int} {vf v3 v4 : Value} {xs : List Int} {w wr : World} {vr : Value} {ps : List RV} (h : SIn B x n vf v3 v4 xs w wr vr ps) : wr.frozen? ⟨x, 2, none⟩ = false := (blk_cell h.g 2 (x := vr) rfl).2
/-- The state behind the call: the new replica is there too. -/
structure SIm (B x : Nat) (n : Int) (vf v3 v4 : Value) (xs : List Int) (w wr : World) (vr : Value) (ps : List RV) (m : RV) : Prop where
  i : SIn B x n vf v3 v4 xs w wr vr ps
  o : SpO B wr n ps.length m
theorem SIm.alloc {B x : Nat} {n : Int} {vf v3 v4 : Value} {xs : List Int} {w wr : World} {vr : Value} {ps : List RV} {m : RV} (h : SIm B x n vf v3 v4 xs w wr vr ps m) (o : Obj) : SIm B x n vf v3 v4 xs w (wr.alloc o) vr ps m := ⟨h.i.alloc o, h.o.below (bel_new _ _)⟩
theorem SIm.drew {B x : Nat} {n : Int} {vf v3 v4 : Value} {xs : List Int} {w wr : World} {vr : Value} {ps : List RV} {m : RV} (h : SIm B x n vf v3 v4 xs w wr vr ps m) : SIm B x n vf v3 v4 xs w wr.drew vr ps m := ⟨h.i.drew, h.o.below (bel_drew _)⟩
/-- The state behind the append. -/
structure SDr (B x : Nat) (n : Int) (vf v3 v4 : Value) (xs : List Int) (w w' : World) (v v' : Value) (ps : List RV) : Prop where
  g : w'.heap[x]? = some (.cells #[.int .i64 n, vf, v, v3, v4] 27 (0, 0))
  own : OwnQ w' B v' ps
  set : SIn B x n vf v3 v4 xs w (w'.setCell ⟨x, 2, none⟩ v') v' ps
theorem SIm.step {B x : Nat} {n : Int} {vf v3 v4 : Value} {xs : List Int} {w wr w4 : World} {vr v' : Value} {ps : List RV} {m : RV} (h : SIm B x n vf v3 v4 xs w wr vr ps m) (o4 : OwnQ w4 B v' (ps ++ [m])) (b4 : Below B w w4) (hk : ∀ k, k < wr.heap.size → some k ≠ vr.ownBlock → w4.heap[k]? = wr.heap[k]?) : SDr B x n vf v3 v4 xs w w4 vr v' (ps ++ [m]) := by
  have hq : ∀ (k : Nat) (cs : Array Value) (t : TypeId), wr.heap[k]? = some (.cells cs t (0, 0)) → t ≠ 65 → w4.heap[k]? = some (.cells cs t (0, 0)) := fun k cs t hc ht => by
    refine (hk k (Array.getElem?_eq_some_iff.1 hc).1 fun e => ?_).trans hc
    obtain ⟨ds, hd⟩ := ownQ_kind h.i.q e.symm
    rw [hc] at hd
    injection hd with hd
    injection hd with _ hd _
    exact ht hd
  have hz := hq _ _ _ h.i.z (by decide)
  have hg := hq _ _ _ h.i.g (by decide)
  have hg2 := blk_set hg 2 v'
  have hs : ∀ (q : Nat) (cs : Array Value) (t : TypeId), wr.heap[q]? = some (.cells cs t (0, 0)) → t ≠ 65 → t ≠ 27 → (w4.setCell ⟨x, 2, none⟩ v').heap[q]? = wr.heap[q]? := fun q cs t hc h1 h2 => by
    rw [blk_far (fun e2 => ?_) _ _, hq q cs t hc h1, hc]
    subst e2
    rw [h.i.g] at hc
    injection hc with hc
    injection hc with _ hc _
    exact h2 hc.symm
  refine ⟨hg, o4, ⟨(blk_far (by have := h.i.hx; omega) _ _).trans hz, by simpa using hg2, ?_, OwnQ.set o4 (ownQ_ne o4 hg) 2 v', fun k p hp => ?_, Below.setCell b4 (p := ⟨x, 2, none⟩) (Nat.le_of_lt h.i.hx) v', h.i.hx⟩⟩
  · refine ownI_kept h.i.f fun k e => ?_
    obtain ⟨cs, hc⟩ := ownI_kind h.i.f e
    exact hs k cs _ hc (by decide) (by decide)
  · rcases get_snoc hp with ⟨_, hp⟩ | ⟨rfl, rfl⟩
    · exact (h.i.p k p hp).keep hs
    · exact h.o.keep hs
theorem step_sq {P : Program} {ops : Array Oper} {o : Oper} {a : Act} {K : Act → World → Prop} {Q : Exit → Act → World → Prop} {E : Prop} {i : TypeInfo} (hgd : o.guard = none) (s z : Operand) (t : TypeId) (ho : o.op = .call { callee := .builtin .append, args := #[s, z], argTypes := #[t, t] }) (ht : P.underlying t = some (.slice 65)) (hi : P.info? 65 = some i) (hz : i.zero = some (.agg #[.int .i64 0, .int .i64 0, .int .i64 0, .bool false, .slice none 0 0, .slice none 0 0, .slice none 0 0, .slice none 0 0]))
    (hsize : i.size = 8) (hby : i.bytes = 128) (W w : World) (B x : Nat) (n : Int) (vf v3 v4 : Value) (xs : List Int) (v : Value) (ps : List RV) (m : RV) (hs : a.eval s = v) (gx : Nat) (hx : a.eval z = .slice (some ⟨gx, 0, none⟩) 1 1) (hbx : W.heap[gx]? = some (.cells (clQ m).toArray 65 (0, 0)))
    (htb : SIm B x n vf v3 v4 xs w W v ps m) (hlen : ps.length ≤ 1000000)
    (h : ∀ v' w', SDr B x n vf v3 v4 xs w w' v v' (ps ++ [m]) → K (a.put o.dst v') w') : if Region.wanted o (yielded ops a.tmps) = true then Oper.wp P o a W K Q else E := by
  have hw : Region.wanted o (yielded ops a.tmps) = true := by simp [Region.wanted, hgd]
  rw [if_pos hw]
  have hbl := (Array.getElem?_eq_some_iff.1 htb.i.z).1
  obtain ⟨v', w', hr, h2, h3, _, h5⟩ := run_append_own_at (P := P) W B t o.type 65 i _ 8 128 ht hi hz hsize hby rfl (by decide) v ps.length _ htb.i.q ⟨gx, 0, none⟩ 1 1 (clQ m) rfl (by
    intro j u hj
    have e2 : (⟨gx, 0, none⟩ : Addr).add j = ⟨gx, j, none⟩ := by unfold Addr.add; split <;> simp_all
    rw [e2, Joins.cell_of_block hbx, ← hj]
    simp [clQ]) (oneQ m) (by unfold maxLen; omega) (by omega) (Nat.le_of_lt hbl)
  refine Ap.wp_app ho hs hx hr (h v' w' (htb.step (by unfold OwnQ; rw [List.flatMap_append, List.length_append]; simpa using h2) (htb.i.b.grown h3 (Nat.le_of_lt hbl) (fun k hk => (htb.i.q.lt k hk).1)) (fun k hk hne => h3.block k hk hne)))
set_option maxRecDepth 100000 in
set_option maxHeartbeats 3200000 in
theorem l08New_any (N : Nat) (b off cap : Nat) (xs : List Int) (w : World) (hN : N ≤ 7) (hl : xs.length ≤ 4096) (hb : b < w.heap.size) (hc : ∀ i, i < xs.length → w.cell? ⟨b, off + i, none⟩ = some (.int .i64 (nth xs i))) :
    Calls Try.prog 27 #[.int .i64 (N : Int), .slice (some ⟨b, off, none⟩) xs.length cap] w fun e w' => ∃ af kf ar kr g3 g4, e = .returned (.agg #[.int .i64 (N : Int), .slice af xs.length kf, .slice ar N kr, .slice g3 0 0, .slice g4 0 0]) ∧ (∃ ps, OwnI w' w.heap.size (.slice af xs.length kf) xs ∧ OwnQ w' w.heap.size (.slice ar N kr) ps ∧ ps.length = N ∧ SpP w.heap.size w' (N : Int) ps) ∧ Below w.heap.size w w' := by
  obtain ⟨i0, hi0, hz0, hz1, hz2⟩ := info_parts infoQ
  obtain ⟨j0, hj0, hy0, hy1, hy2⟩ := info_parts info3
  have HZ : Hid ((w.alloc (.cells #[.int .i64 0, .slice none 0 0, .slice none 0 0, .slice none 0 0, .slice none 0 0] 27)).heap[w.heap.size]? = some (.cells #[.int .i64 0, .slice none 0 0, .slice none 0 0, .slice none 0 0, .slice none 0 0] 27 (0, 0))) := blk_new _ _ _
  have HB0 : Hid (Below w.heap.size w (w.alloc (.cells #[.int .i64 0, .slice none 0 0, .slice none 0 0, .slice none 0 0, .slice none 0 0] 27))) := bel_new _ _
  have HC : Hid (∀ i, i < xs.length → (w.alloc (.cells #[.int .i64 0, .slice none 0 0, .slice none 0 0, .slice none 0 0, .slice none 0 0] 27)).cell? ⟨b, off + i, none⟩ = some (.int .i64 (nth xs i))) := fun i hi => ((bel_new w _).cell (p := ⟨b, off + i, none⟩) hb).trans (hc i hi)
  clear hc
  go_enter Try.func27, Try.ntmps27
  go_upto_region 1 with fail
  have hb0 : b < (w.alloc (.cells #[.int .i64 0, .slice none 0 0, .slice none 0 0, .slice none 0 0, .slice none 0 0] 27)).heap.size := by rw [size_new]; omega
  generalize w.alloc (.cells #[.int .i64 0, .slice none 0 0, .slice none 0 0, .slice none 0 0, .slice none 0 0] 27) = w0 at HZ HB0 HC hb0 ⊢
  have HO : Hid (OwnI (w0.alloc (.cells #[] 3)) w0.heap.size (.slice (some ⟨w0.heap.size, 0, none⟩) 0 0) []) := OwnI.made w0 _ (Nat.le_refl _)
  go_upto_region 2 with (at_builtin; go_must (refine list_ints (by rfl) _ _ 22 (by rfl) j0 Try.underlying22 hj0 hy0 hy1 hy2 w0.heap.size w0 _ _ [] xs b off _ cap rfl (by rfl) HO.out (bel_new w0 _) (by simp) (by rfl) (fun i hi => ((bel_new w0 _).cell (p := ⟨b, off + i, none⟩) hb0).trans (HC.out i hi)) (by simp; omega) ?_; intro vf w1 o1 b1 _ _ _; rw [List.nil_append] at o1; obtain ⟨af, kf, rfl⟩ := ownI_slice o1))
  have l0 := (Array.getElem?_eq_some_iff.1 HZ.out).1
  have l1 : w.heap.size < w1.heap.size := Nat.lt_of_lt_of_le l0 b1.size
  have HN0 : Hid (SIn w.heap.size (w1.heap.size + 1 + 1) (N : Int) (.slice af xs.length kf) (.slice (some ⟨w1.heap.size, 0, none⟩) 0 0) (.slice (some ⟨w1.heap.size + 1, 0, none⟩) 0 0) xs w (((w1.alloc (.cells #[] 92)).alloc (.cells #[] 90)).alloc (.cells #[.int .i64 (N : Int), .slice af xs.length kf, .slice none 0 0, .slice (some ⟨w1.heap.size, 0, none⟩) 0 0, .slice (some ⟨w1.heap.size + 1, 0, none⟩) 0 0] 27)) (.slice none 0 0) []) := by
    have bb : Below w1.heap.size w1 (((w1.alloc (.cells #[] 92)).alloc (.cells #[] 90)).alloc (.cells #[.int .i64 (N : Int), .slice af xs.length kf, .slice none 0 0, .slice (some ⟨w1.heap.size, 0, none⟩) 0 0, .slice (some ⟨w1.heap.size + 1, 0, none⟩) 0 0] 27)) := ((bel_new w1 _).alloc (by simp) _).alloc (by simp; omega) _
    have hg := blk_new ((w1.alloc (.cells #[] 92)).alloc (.cells #[] 90)) #[.int .i64 (N : Int), .slice af xs.length kf, .slice none 0 0, .slice (some ⟨w1.heap.size, 0, none⟩) 0 0, .slice (some ⟨w1.heap.size + 1, 0, none⟩) 0 0] 27
    rw [size_new, size_new] at hg
    refine ⟨(bb.block _ l1).trans ((b1.block _ l0).trans HZ.out), hg, ownI_below (ownI_mono o1 (Nat.le_of_lt l0)) bb, OwnQ.nil _ _, fun k p hp => by simp at hp, ?_, by omega⟩
    exact (HB0.out.trans (b1.mono (Nat.le_of_lt l0))).trans (bb.mono (Nat.le_of_lt l1))
  clear o1 b1 HZ HB0 HC HO l0 hb0 l1
  generalize ((w1.alloc (.cells #[] 92)).alloc (.cells #[] 90)).alloc (.cells #[.int .i64 (N : Int), .slice af xs.length kf, .slice none 0 0, .slice (some ⟨w1.heap.size, 0, none⟩) 0 0, .slice (some ⟨w1.heap.size + 1, 0, none⟩) 0 0] 27) = w2 at HN0 ⊢
  generalize w1.heap.size + 1 + 1 = x at HN0 ⊢
  generalize (some ⟨w1.heap.size + 1, 0, none⟩ : Option Addr) = g4 at HN0 ⊢
  generalize (some ⟨w1.heap.size, 0, none⟩ : Option Addr) = g3 at HN0 ⊢
  go_wp2_with fail
  go_loopw [6] (fun i wr => ∃ (j : Nat) (ps : List RV) (vr : Value), i = .int .i64 (j : Int) ∧ j ≤ N ∧ Hid (ps.length = j) ∧ Hid (SIn w.heap.size x (N : Int) (.slice af xs.length kf) (.slice g3 0 0) (.slice g4 0 0) xs w wr vr ps)) (fun i _ => N - (intOf i).toNat)
  case atStart => exact ⟨0, [], _, rfl, by omega, rfl, HN0⟩
  case round =>
    clear HN0
    obtain ⟨j, ps, vr, rfl, hj, HL, HI⟩ := hrel
    obtain ⟨ar, kr, rfl⟩ := OwnQ.slice HI.out.q
    by_cases hlt : j < N
    · have hlt' : (j : Int) < (N : Int) := by omega
      have HLN : Hid (ps.length ≤ 1000000) := by show _ ≤ _; rw [HL.out]; omega
      have HL7 : Hid (∀ W, SIn w.heap.size x (N : Int) (.slice af xs.length kf) (.slice g3 0 0) (.slice g4 0 0) xs w W (.slice ar ps.length kr) ps → Calls Try.prog 50 #[.int .i64 (j : Int), .int .i64 (N : Int)] W fun e w' => ∃ as8 cs8 ac cc l1 e1 m1 f1, e = .returned (.agg #[.int .i64 (j : Int), .int .i64 (N : Int), .int .i64 0, .bool true, .slice as8 8 cs8, .slice ac 8 cc, .slice l1 0 e1, .slice m1 0 f1]) ∧ SIm w.heap.size x (N : Int) (.slice af xs.length kf) (.slice g3 0 0) (.slice g4 0 0) xs w w' (.slice ar ps.length kr) ps ⟨(j : Int), (N : Int), as8, cs8, ac, cc, l1, e1, m1, f1⟩) := fun W hW => by
        refine (l07New_any (j : Int) (N : Int) W).mono ?_
        rintro e w' ⟨as8, cs8, ac, cc, l1, m1, e1, f1, us8, us, rfl, h1, h2, h3⟩
        exact ⟨as8, cs8, ac, cc, l1, e1, m1, f1, rfl, hW.below h3, by show (j : Int) = ((ps.length : Nat) : Int); rw [HL.out], rfl, us8, us, ⟨OwnS.mono h1.1 (Nat.le_of_lt (Array.getElem?_eq_some_iff.1 hW.z).1), h1.2⟩, OwnC.mono h2.1 (Nat.le_of_lt (Array.getElem?_eq_some_iff.1 hW.z).1), h2.2⟩
      have T5 := HI.out
      have u0 := T5.c2
      have u1 := T5.drew.c2
      clear HI
      go_upto_region 5 with fail
      go_region_law
        (first
          | (go_simp; go_at_call 50; (with_reducible refine (HL7.out _ (by first | assumption | exact SIn.drew (by assumption) | exact SIn.alloc (by assumption) _ | exact SIn.drew (SIn.alloc (by assumption) _) | exact SIn.alloc (SIn.drew (by assumption)) _)).mono ?_); rintro e wn ⟨as8, cs8, ac, cc, l1, e1, m1, f1, rfl, tn⟩; have qn := tn.i.c2; have qa := fun o => (tn.i.alloc o).c2; have qd := tn.i.drew.c2; try go_simp)
          | (refine step_sq (by rfl) _ _ 23 (by rfl) Try.underlying23 hi0 hz0 hz1 hz2 _ w w.heap.size x _ _ _ _ xs _ ps ⟨(j : Int), (N : Int), as8, cs8, ac, cc, l1, e1, m1, f1⟩ (by rfl) _ (by rfl) (by first | exact heap_alloc_new _ _ | exact (heap_alloc_new _ _ : (World.alloc _ _).drew.heap[_]? = _)) (by first | assumption | exact SIm.drew (by assumption) | exact SIm.alloc (by assumption) _ | exact SIm.drew (SIm.alloc (by assumption) _) | exact SIm.alloc (SIm.drew (by assumption)) _) HLN.out ?_; intro v5 w5 t5; obtain ⟨a5, cap5, rfl⟩ := OwnQ.slice t5.own; obtain ⟨s5, f5⟩ := blk_cell t5.g 2 (x := .slice ar ps.length kr) rfl; try go_simp))
      all_goals
        rw [show (ps ++ [(⟨(j : Int), (N : Int), as8, cs8, ac, cc, l1, e1, m1, f1⟩ : RV)]).length = ps.length + 1 by simp] at t5
        have T6 := t5.set
        clear t5 T5 u0 u1 tn qn qa qd s5 f5
        go_wp2_with fail
        exact ⟨⟨j + 1, _, _, by go_num, by omega, (by show _ = _; rw [List.length_append, HL.out]; rfl), T6⟩, by simp [intOf]; omega⟩
    · obtain rfl : j = N := by omega
      go_upto_region 6 with fail
      have HA := HI.out.z
      have HG := HI.out.g
      have hxB := HI.out.hx
      obtain ⟨ca0, fa0⟩ := blk_cell HA 0 (x := .int .i64 0) rfl
      have cb0 := (blk_cell HG 0 (x := .int .i64 (j : Int)) rfl).1
      obtain ⟨ca1, fa1⟩ := blk_cell HA 1 (x := .slice none 0 0) rfl
      have cb1 := (blk_cell HG 1 (x := .slice af xs.length kf) rfl).1
      obtain ⟨ca2, fa2⟩ := blk_cell HA 2 (x := .slice none 0 0) rfl
      have cb2 := (blk_cell HG 2 (x := .slice ar ps.length kr) rfl).1
      obtain ⟨ca3, fa3⟩ := blk_cell HA 3 (x := .slice none 0 0) rfl
      have cb3 := (blk_cell HG 3 (x := .slice g3 0 0) rfl).1
      obtain ⟨ca4, fa4⟩ := blk_cell HA 4 (x := .slice none 0 0) rfl
      have cb4 := (blk_cell HG 4 (x := .slice g4 0 0) rfl).1
      have AF : ((((((wr.setCell ⟨w.heap.size, 0, none⟩ (.int .i64 (j : Int))).setCell ⟨w.heap.size, 1, none⟩ (.slice af xs.length kf)).setCell ⟨w.heap.size, 2, none⟩ (.slice ar ps.length kr)).setCell ⟨w.heap.size, 3, none⟩ (.slice g3 0 0)).setCell ⟨w.heap.size, 4, none⟩ (.slice g4 0 0))).heap[w.heap.size]? = some (.cells #[.int .i64 (j : Int), .slice af xs.length kf, .slice ar ps.length kr, .slice g3 0 0, .slice g4 0 0] 27 (0, 0)) := (blk_set (blk_set (blk_set (blk_set (blk_set HA 0 (.int .i64 (j : Int))) 1 (.slice af xs.length kf)) 2 (.slice ar ps.length kr)) 3 (.slice g3 0 0)) 4 (.slice g4 0 0))
      have BF : Hid (Below w.heap.size w (((((wr.setCell ⟨w.heap.size, 0, none⟩ (.int .i64 (j : Int))).setCell ⟨w.heap.size, 1, none⟩ (.slice af xs.length kf)).setCell ⟨w.heap.size, 2, none⟩ (.slice ar ps.length kr)).setCell ⟨w.heap.size, 3, none⟩ (.slice g3 0 0)).setCell ⟨w.heap.size, 4, none⟩ (.slice g4 0 0))) := (Below.setCell (Below.setCell (Below.setCell (Below.setCell (Below.setCell HI.out.b (p := ⟨w.heap.size, 0, none⟩) (Nat.le_refl _) (.int .i64 (j : Int))) (p := ⟨w.heap.size, 1, none⟩) (Nat.le_refl _) (.slice af xs.length kf)) (p := ⟨w.heap.size, 2, none⟩) (Nat.le_refl _) (.slice ar ps.length kr)) (p := ⟨w.heap.size, 3, none⟩) (Nat.le_refl _) (.slice g3 0 0)) (p := ⟨w.heap.size, 4, none⟩) (Nat.le_refl _) (.slice g4 0 0))
      have KF : Hid (OwnI (((((wr.setCell ⟨w.heap.size, 0, none⟩ (.int .i64 (j : Int))).setCell ⟨w.heap.size, 1, none⟩ (.slice af xs.length kf)).setCell ⟨w.heap.size, 2, none⟩ (.slice ar ps.length kr)).setCell ⟨w.heap.size, 3, none⟩ (.slice g3 0 0)).setCell ⟨w.heap.size, 4, none⟩ (.slice g4 0 0)) w.heap.size (.slice af xs.length kf) xs ∧ OwnQ (((((wr.setCell ⟨w.heap.size, 0, none⟩ (.int .i64 (j : Int))).setCell ⟨w.heap.size, 1, none⟩ (.slice af xs.length kf)).setCell ⟨w.heap.size, 2, none⟩ (.slice ar ps.length kr)).setCell ⟨w.heap.size, 3, none⟩ (.slice g3 0 0)).setCell ⟨w.heap.size, 4, none⟩ (.slice g4 0 0)) w.heap.size (.slice ar ps.length kr) ps ∧ SpP w.heap.size (((((wr.setCell ⟨w.heap.size, 0, none⟩ (.int .i64 (j : Int))).setCell ⟨w.heap.size, 1, none⟩ (.slice af xs.length kf)).setCell ⟨w.heap.size, 2, none⟩ (.slice ar ps.length kr)).setCell ⟨w.heap.size, 3, none⟩ (.slice g3 0 0)).setCell ⟨w.heap.size, 4, none⟩ (.slice g4 0 0)) (j : Int) ps) := by
        have hne : ∀ k, k ≠ w.heap.size → ((((((wr.setCell ⟨w.heap.size, 0, none⟩ (.int .i64 (j : Int))).setCell ⟨w.heap.size, 1, none⟩ (.slice af xs.length kf)).setCell ⟨w.heap.size, 2, none⟩ (.slice ar ps.length kr)).setCell ⟨w.heap.size, 3, none⟩ (.slice g3 0 0)).setCell ⟨w.heap.size, 4, none⟩ (.slice g4 0 0))).heap[k]? = wr.heap[k]? := fun k hk => by rw [blk_far hk, blk_far hk, blk_far hk, blk_far hk, blk_far hk]
        refine ⟨ownI_kept HI.out.f fun k e => hne k fun e2 => ?_, HI.out.q.kept fun k e => hne k fun e2 => ?_, fun k p hp => (HI.out.p k p hp).keep fun q cs t hc h1 h2 => hne q fun e2 => ?_⟩
        · obtain ⟨cs, hc⟩ := ownI_kind HI.out.f e
          subst e2
          rw [HA] at hc
          simp at hc
        · obtain ⟨cs, hc⟩ := ownQ_kind HI.out.q e
          subst e2
          rw [HA] at hc
          simp at hc
        · subst e2
          rw [HA] at hc
          injection hc with hc
          injection hc with _ hc _
          exact h2 hc.symm
      have hxw : x ≠ w.heap.size := by omega
      clear HA HG HI
      go_wp2_with fail
      generalize (((((wr.setCell ⟨w.heap.size, 0, none⟩ (.int .i64 (j : Int))).setCell ⟨w.heap.size, 1, none⟩ (.slice af xs.length kf)).setCell ⟨w.heap.size, 2, none⟩ (.slice ar ps.length kr)).setCell ⟨w.heap.size, 3, none⟩ (.slice g3 0 0)).setCell ⟨w.heap.size, 4, none⟩ (.slice g4 0 0)) = wf at AF BF KF ⊢
      have d0 := (blk_cell AF 0 (x := .int .i64 (j : Int)) rfl).1
      have d1 := (blk_cell AF 1 (x := .slice af xs.length kf) rfl).1
      have d2 := (blk_cell AF 2 (x := .slice ar ps.length kr) rfl).1
      have d3 := (blk_cell AF 3 (x := .slice g3 0 0) rfl).1
      have d4 := (blk_cell AF 4 (x := .slice g4 0 0) rfl).1
      exact bodyPost_ret (v := .agg #[.int .i64 (j : Int), .slice af xs.length kf, .slice ar ps.length kr, .slice g3 0 0, .slice g4 0 0]) (by simp [results, Try.results27, go_sem, d0, d1, d2, d3, d4]) rfl ⟨af, kf, ar, kr, g3, g4, by rw [HL.out], ⟨ps, KF.out.1, by rw [← HL.out]; exact KF.out.2.1, HL.out, KF.out.2.2⟩, BF.out⟩
end Go.Proofs.Ytdhmmbbdckahmaa.Ng
