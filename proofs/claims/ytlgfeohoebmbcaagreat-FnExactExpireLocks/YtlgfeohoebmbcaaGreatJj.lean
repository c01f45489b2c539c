/- A book's table is handed over. -/
import Derived.Test.YtlgfeohoebmbcaaGreatJi
namespace Go.Proofs.YtlgfeohoebmbcaaGreat.Jj
open Go.RowKit Go.Proofs.YtlgfeohoebmbcaaGreat.Sl Go.Proofs.YtlgfeohoebmbcaaGreat.By Go.Proofs.YtlgfeohoebmbcaaGreat.Ap Go.Proofs.YtlgfeohoebmbcaaGreat.Tb Go.Proofs.YtlgfeohoebmbcaaGreat.Tw Go.Proofs.YtlgfeohoebmbcaaGreat.Mw Go.Proofs.YtlgfeohoebmbcaaGreat.Wa Go.Proofs.YtlgfeohoebmbcaaGreat.Bk Go.Proofs.YtlgfeohoebmbcaaGreat.Tp Go.Proofs.YtlgfeohoebmbcaaGreat.Da Go.Proofs.YtlgfeohoebmbcaaGreat.Ja Go.Proofs.YtlgfeohoebmbcaaGreat.Jb Go.Proofs.YtlgfeohoebmbcaaGreat.Jc
open Go.Proofs.YtlgfeohoebmbcaaGreat.Lo (LkA uV clL OwnL own_block kind_ne Apart nest2 OwnL.below OwnL.slice OwnL.kept OwnL.lt OwnL.mono atL)
open Go.Proofs.YtlgfeohoebmbcaaGreat.Tx (blk_cell blk_set blk_far blk_new bel_new)
open Go.Proofs.YtlgfeohoebmbcaaGreat.Je Go.Proofs.YtlgfeohoebmbcaaGreat.Jf Go.Proofs.YtlgfeohoebmbcaaGreat.Jd Go.Proofs.YtlgfeohoebmbcaaGreat.Jh Go.Proofs.YtlgfeohoebmbcaaGreat.Ji
section
variable {w0 w : World} {B p bL bS : Nat} {T : Tab} {ps : List LkA}
/-- A table in memory of one's own, those that wait from anywhere in blocks of their own. -/
structure TabO (w : World) (B : Nat) (vl vs : Value) (T : Tab) (ps : List LkA) : Prop where
  ol : OwnL w B vl ps
  os : OwnS w B vs T.ss
  ow : ∀ q ∈ ps, OwnO w B (uV q) q.1.ws
  ap : Apart ps
  eq : ps.map (·.1) = T.ls
set_option maxRecDepth 100000 in
set_option maxHeartbeats 3200000 in
theorem table_any (h : BK w0 w B p bL bS T ps) (hl : T.ls.length ≤ 4) (hs : T.ss.length ≤ 6) :
    Calls Tryz.prog 47 #[.pointer (some ⟨p, 0, none⟩)] w fun e w' => ∃ vl vs, e = .returned (tabV T.tm T.nx vl vs) ∧ TabO w' B vl vs T ps ∧ Below w.heap.size w w' := by
  have HH : Hid (BK w0 w B p bL bS T ps) := h
  have HLN : Hid (ps.length = T.ls.length) := h.len
  have hw1 : Below w.heap.size w (w.alloc (.cells #[.int .i64 0, .int .i64 0, .slice none 0 0, .slice none 0 0] 30)) := bel_new _ _
  have HB : Hid (Below w.heap.size w (w.alloc (.cells #[.int .i64 0, .int .i64 0, .slice none 0 0, .slice none 0 0] 30)) ∧ (w.alloc (.cells #[.int .i64 0, .int .i64 0, .slice none 0 0, .slice none 0 0] 30)).heap[w.heap.size]? = some (.cells #[.int .i64 0, .int .i64 0, .slice none 0 0, .slice none 0 0] 30 (0, 0))) := ⟨hw1, blk_new _ _ _⟩
  clear h hw1
  go_enter Tryz.func47, Tryz.ntmps47
  go_upto_region 1 with fail
  generalize w.alloc (.cells #[.int .i64 0, .int .i64 0, .slice none 0 0, .slice none 0 0] 30) = w1 at HB ⊢
  have HSP : Hid (∀ W, Below w1.heap.size w1 W → (W.cell? ⟨p, 0, none⟩ = some (.int .i64 T.tm) ∧ W.cell? ⟨p, 1, none⟩ = some (.int .i64 T.nx) ∧ W.cell? ⟨p, 2, none⟩ = some (.map (some bL)) ∧ W.cell? ⟨p, 3, none⟩ = some (.map (some bS)))) := fun W hW => by
    have hp := (HH.out.up (HB.out.1.trans (hW.mono HB.out.1.size))).hp
    exact ⟨(blk_cell hp 0 rfl).1, (blk_cell hp 1 rfl).1, (blk_cell hp 2 rfl).1, (blk_cell hp 3 rfl).1⟩
  have HRB : Hid (∀ W, Below w1.heap.size w1 W → W.heap[w.heap.size]? = some (.cells #[.int .i64 0, .int .i64 0, .slice none 0 0, .slice none 0 0] 30 (0, 0))) := fun W hW => (hW.block _ (Array.getElem?_eq_some_iff.1 HB.out.2).1).trans HB.out.2
  have HIL : Hid (∀ W, Below w1.heap.size w1 W → Calls Tryz.prog 74 #[.map (some bL)] W fun e w' => ∃ a c, e = .returned (.slice a T.ls.length c) ∧ Hid (OwnL w' w1.heap.size (.slice a T.ls.length c) ps ∧ Below w1.heap.size w1 w' ∧ Below W.heap.size W w')) := fun W hW => by
    have hk := HH.out.up (HB.out.1.trans (hW.mono HB.out.1.size))
    refine (inOrderL_any bL W ps hk.ml (by rw [hk.eq]; exact hk.nm) (fun q hq => hk.sn q.1 (by rw [← hk.eq]; exact List.mem_map.2 ⟨q, hq, rfl⟩)) (by rw [HLN.out]; omega)).mono ?_
    rintro e w' ⟨v, rfl, o, b⟩
    obtain ⟨a, c, rfl⟩ := OwnL.slice o
    rw [HLN.out] at o ⊢
    exact ⟨a, c, rfl, o.mono hW.size, hW.trans (b.mono hW.size), b⟩
  have HIS : Hid (∀ W, Below w1.heap.size w1 W → Calls Tryz.prog 76 #[.map (some bS)] W fun e w' => ∃ a c, e = .returned (.slice a T.ss.length c) ∧ Hid (OwnS w' w1.heap.size (.slice a T.ss.length c) T.ss ∧ Below w1.heap.size w1 w' ∧ Below W.heap.size W w')) := fun W hW => by
    have hk := HH.out.up (HB.out.1.trans (hW.mono HB.out.1.size))
    refine (inOrderS_any bS W T.ss hk.ms hk.cl hk.sc (by omega)).mono ?_
    rintro e w' ⟨v, rfl, o, b⟩
    obtain ⟨a, c, rfl⟩ := OwnS.slice o
    exact ⟨a, c, rfl, o.mono hW.size, hW.trans (b.mono hW.size), b⟩
  have HPN : Hid (p ≠ w.heap.size) := by show _ ≠ _; have := HH.out.plt; omega
  have S1 := HSP.out w1 (Below.refl _ _)
  go_region_held_law (fun W => (W.cell? ⟨p, 0, none⟩ = some (.int .i64 T.tm) ∧ W.cell? ⟨p, 1, none⟩ = some (.int .i64 T.nx) ∧ W.cell? ⟨p, 2, none⟩ = some (.map (some bL)) ∧ W.cell? ⟨p, 3, none⟩ = some (.map (some bS)))) (first | exact S1 | exact HSP.out _ (Below.refl _ _).drew | assumption | exact ⟨cf HPN.out (cf HPN.out (cf HPN.out (cf HPN.out Ss.1))), cf HPN.out (cf HPN.out (cf HPN.out (cf HPN.out Ss.2.1))), cf HPN.out (cf HPN.out (cf HPN.out (cf HPN.out Ss.2.2.1))), cf HPN.out (cf HPN.out (cf HPN.out (cf HPN.out Ss.2.2.2)))⟩ | exact ⟨cf HPN.out (cf HPN.out (cf HPN.out (cf HPN.out Sl.1))), cf HPN.out (cf HPN.out (cf HPN.out (cf HPN.out Sl.2.1))), cf HPN.out (cf HPN.out (cf HPN.out (cf HPN.out Sl.2.2.1))), cf HPN.out (cf HPN.out (cf HPN.out (cf HPN.out Sl.2.2.2)))⟩) ((first
    | (go_at_call 74; refine (HIL.out _ (by first | assumption | exact Below.refl _ _ | exact (Below.refl _ _).drew)).mono ?_; rintro e wl ⟨a2, c2, rfl, HL⟩; have bl := HL.out.2.1; have Sl := HSP.out wl bl; obtain ⟨r0, s0⟩ := blk_cell (HRB.out wl bl) 0 (x := .int .i64 0) rfl; obtain ⟨r1, s1⟩ := blk_cell (HRB.out wl bl) 1 (x := .int .i64 0) rfl; obtain ⟨r2, s2⟩ := blk_cell (HRB.out wl bl) 2 (x := .slice none 0 0) rfl; obtain ⟨r3, s3⟩ := blk_cell (HRB.out wl bl) 3 (x := .slice none 0 0) rfl)
    | (go_at_call 76; refine (HIS.out _ (by first | assumption | exact Below.refl _ _ | exact (Below.refl _ _).drew)).mono ?_; rintro e ws ⟨a3, c3, rfl, HS⟩; have bs := HS.out.2.1; have Ss := HSP.out ws bs; obtain ⟨r0, s0⟩ := blk_cell (HRB.out ws bs) 0 (x := .int .i64 0) rfl; obtain ⟨r1, s1⟩ := blk_cell (HRB.out ws bs) 1 (x := .int .i64 0) rfl; obtain ⟨r2, s2⟩ := blk_cell (HRB.out ws bs) 2 (x := .slice none 0 0) rfl; obtain ⟨r3, s3⟩ := blk_cell (HRB.out ws bs) 3 (x := .slice none 0 0) rfl)))
  all_goals
    have HF : Hid (((((ws.setCell ⟨w.heap.size, 0, none⟩ (.int .i64 T.tm)).setCell ⟨w.heap.size, 1, none⟩ (.int .i64 T.nx)).setCell ⟨w.heap.size, 2, none⟩ (.slice a2 T.ls.length c2)).setCell ⟨w.heap.size, 3, none⟩ (.slice a3 T.ss.length c3)).heap[w.heap.size]? = some (.cells #[.int .i64 T.tm, .int .i64 T.nx, .slice a2 T.ls.length c2, .slice a3 T.ss.length c3] 30 (0, 0)) ∧ TabO ((((ws.setCell ⟨w.heap.size, 0, none⟩ (.int .i64 T.tm)).setCell ⟨w.heap.size, 1, none⟩ (.int .i64 T.nx)).setCell ⟨w.heap.size, 2, none⟩ (.slice a2 T.ls.length c2)).setCell ⟨w.heap.size, 3, none⟩ (.slice a3 T.ss.length c3)) B (.slice a2 T.ls.length c2) (.slice a3 T.ss.length c3) T ps ∧ Below w.heap.size w ((((ws.setCell ⟨w.heap.size, 0, none⟩ (.int .i64 T.tm)).setCell ⟨w.heap.size, 1, none⟩ (.int .i64 T.nx)).setCell ⟨w.heap.size, 2, none⟩ (.slice a2 T.ls.length c2)).setCell ⟨w.heap.size, 3, none⟩ (.slice a3 T.ss.length c3))) := by
      have hrb := HRB.out ws bs
      have hr1 := HB.out.1.size
      have hlt : w.heap.size < w1.heap.size := (Array.getElem?_eq_some_iff.1 HB.out.2).1
      have hB : B ≤ w.heap.size := HH.out.size
      obtain ⟨o1, o2, o3⟩ := HL.out
      obtain ⟨q1, q2, q3⟩ := HS.out
      have far : ∀ k, k ≠ w.heap.size → ((((ws.setCell ⟨w.heap.size, 0, none⟩ (.int .i64 T.tm)).setCell ⟨w.heap.size, 1, none⟩ (.int .i64 T.nx)).setCell ⟨w.heap.size, 2, none⟩ (.slice a2 T.ls.length c2)).setCell ⟨w.heap.size, 3, none⟩ (.slice a3 T.ss.length c3)).heap[k]? = ws.heap[k]? := fun k hk => (blk_far hk 3 _).trans ((blk_far hk 2 _).trans ((blk_far hk 1 _).trans (blk_far hk 0 _)))
      have o4 := o1.below q3
      refine ⟨blk_set (blk_set (blk_set (blk_set hrb 0 _) 1 _) 2 _) 3 _, ⟨(o4.kept fun g hg => far g (by have := (o4.lt g hg).1; omega)).mono (by omega), (q1.kept fun g hg => far g (by have := (q1.lt g hg).1; omega)).mono (by omega), fun q hq => ?_, HH.out.ap, HH.out.eq⟩, ?_⟩
      · have hq1 := HH.out.ow q hq
        exact hq1.kept fun g hg => (far g (by have := (hq1.lt g hg).2; omega)).trans ((bs.block g (by have := (hq1.lt g hg).2; omega)).trans (HB.out.1.block g (hq1.lt g hg).2))
      · exact Below.setCell (Below.setCell (Below.setCell (Below.setCell (HB.out.1.trans (bs.mono HB.out.1.size)) (p := ⟨w.heap.size, 0, none⟩) (Nat.le_refl _) _) (p := ⟨w.heap.size, 1, none⟩) (Nat.le_refl _) _) (p := ⟨w.heap.size, 2, none⟩) (Nat.le_refl _) _) (p := ⟨w.heap.size, 3, none⟩) (Nat.le_refl _) _
    clear r0 s0 r1 s1 r2 s2 r3 s3 HL HS bl bs Sl Ss S1
    go_wp2_with fail
    generalize ((((ws.setCell ⟨w.heap.size, 0, none⟩ (.int .i64 T.tm)).setCell ⟨w.heap.size, 1, none⟩ (.int .i64 T.nx)).setCell ⟨w.heap.size, 2, none⟩ (.slice a2 T.ls.length c2)).setCell ⟨w.heap.size, 3, none⟩ (.slice a3 T.ss.length c3)) = wf at HF ⊢
    have d0 := (blk_cell HF.out.1 0 (x := .int .i64 T.tm) rfl).1
    have d1 := (blk_cell HF.out.1 1 (x := .int .i64 T.nx) rfl).1
    have d2 := (blk_cell HF.out.1 2 (x := .slice a2 T.ls.length c2) rfl).1
    have d3 := (blk_cell HF.out.1 3 (x := .slice a3 T.ss.length c3) rfl).1
    exact bodyPost_ret (v := .agg #[.int .i64 T.tm, .int .i64 T.nx, .slice a2 T.ls.length c2, .slice a3 T.ss.length c3]) (by simp [results, Tryz.results47, go_sem, d0, d1, d2, d3]) rfl ⟨_, _, rfl, HF.out.2.1, HF.out.2.2⟩
end
end Go.Proofs.YtlgfeohoebmbcaaGreat.Jj
