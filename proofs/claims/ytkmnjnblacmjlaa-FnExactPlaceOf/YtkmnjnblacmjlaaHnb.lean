/- Calls in a log: the program's iterator over them, and the first place of a call. -/
import Derived.Test.YtkmnjnblacmjlaaHna
import Derived.RangeFuncNested
import Derived.RangeFuncBound
import Derived.RangeFuncCalls
import Derived.RangeFuncLeaves
import Derived.Shelf.Abstract
import Derived.Shelf.RegionOpen
import Derived.WalkKit
import Derived.OwnWalkIn
import Derived.TacticsInMore
import Derived.LoopNIn
import Derived.LoopIn
namespace Go.Proofs.Ytkmnjnblacmjlaa.Hn
open Go.RowKit Go.Shelf Go.Proofs.Ytkmnjnblacmjlaa.Sl Go.Proofs.Ytkmnjnblacmjlaa.By Go.Proofs.Ytkmnjnblacmjlaa.Ap Go.Proofs.Ytkmnjnblacmjlaa.Tkb
open Go.Proofs.Ytkmnjnblacmjlaa.Tx (RowT RowT.below tnth tnth_at tnth_mem)
open Go.Proofs.Ytkmnjnblacmjlaa.Rg (RowG RowG.slice)
attribute [local go_sem] Oper.semAt_some
theorem grown_of {w w' : World} (h : Below w.heap.size w w') : w.grownBy w' none := ⟨h.os, h.tape, h.output, h.size, fun k hk _ => h.block k hk⟩
set_option maxRecDepth 100000 in
set_option maxHeartbeats 3200000 in
theorem callsIn1_any (n : Nat) (hn : 1 ≤ n) (l Bs : Nat) (a : Option Addr) (cap : Nat) (ts : List ByteArray) (w : World) (hR : RowT w (.slice a ts.length cap) ts) (hl : ts.length ≤ 1000000) (hs : ∀ t ∈ ts, t.size ≤ 20000)
    (J Jx : List Pt → World → Prop) (W0 : World) (hJ : AbidesFrom W0.heap.size J)
    (hY : ∀ pre x W, J pre W → pre.length < (cP ts ts.length).length → YieldAt Fence.wide (n - 1) Try.prog l (encs x) W fun e W' =>
      (e = .returned (.bool true) ∧ J (pre ++ [x]) W' ∧ Below w.heap.size W W') ∨ (e = .returned (.bool false) ∧ Jx (pre ++ [x]) W'))
    (hW : Below w.heap.size w W0) (hBs : W0.cell? ⟨Bs, 0, none⟩ = some (.slice a ts.length cap)) (h0 : J [] W0) :
    CallsIn Fence.wide n Try.prog 17 #[.func (.yield l) #[] #[], .pointer (some ⟨Bs, 0, none⟩)] W0 fun e W' => (∃ v, e = .returned v) ∧
      ((∃ ys, ys = cP ts ts.length ∧ J ys W') ∨ (∃ pre, pre <+: cP ts ts.length ∧ Jx pre W')) := by
  have HS : Hid (∀ t ∈ ts, t.size ≤ 20000) := hs
  have HR : Hid (RowT w (.slice a ts.length cap) ts) := hR
  clear hs hR
  refine callsIn_of_wp Try.func17 rfl trivial ?_ rfl
  simp only [Try.ntmps17, List.size_toArray, List.length_cons, List.length_nil, Nat.reduceAdd, Nat.reduceSub, Array.replicate_succ, Array.replicate_zero, List.push_toArray, List.append_toArray, List.nil_append, List.cons_append]
  gi_wp2
  gi_loopw [9] (fun i wr => ∃ k : Nat, k ≤ ts.length ∧ i = .int .i64 k ∧ Hid (J (cP ts k) wr ∧ Below w.heap.size w wr))
    (fun i _ => ts.length - (intOf i).toNat)
  case atStart => exact ⟨0, Nat.zero_le _, rfl, h0, hW⟩
  case round =>
    obtain ⟨k, hk, rfl, HJ⟩ := hrel
    by_cases hlt : k < ts.length
    · obtain ⟨a', cap', he, hc⟩ := HR.out.below HJ.out.2
      rcases hc with hc | ⟨b, off, rfl, _, hbl, hcell⟩
      · exact absurd hlt (by rw [hc]; simp)
      cases he
      have c0 := hcell k hlt
      have HSZ : Hid ((tnth ts k).size ≤ 20000) := HS.out _ (tnth_mem hlt)
      have HYES : Hid (isC (tnth ts k) = true → cP ts (k + 1) = cP ts k ++ [(k, tnth ts k)] ∧ (cP ts k).length < (cP ts ts.length).length ∧ cP ts k ++ [(k, tnth ts k)] <+: cP ts ts.length) := fun h => ⟨cP_yes h, cP_lt h hlt, by rw [← cP_yes h]; exact cP_le (by omega)⟩
      have HNO : Hid (isC (tnth ts k) = false → cP ts (k + 1) = cP ts k) := fun h => cP_no h
      clear hcell
      generalize tnth ts k = t at c0 HSZ HYES HNO
      obtain ⟨v2, w2, hcv, r2, b2⟩ := bytes_run t wr
      have HRB0 := implReadBatch_any v2 (bys t) w2 r2 (by rw [bys_length]; have := HSZ.out; omega)
      obtain ⟨HY1, HY2⟩ := rb_body t (by have := HSZ.out; omega)
      have HAB := fun W (hW : Below wr.heap.size wr W) => hJ (cP ts k) wr W none HJ.out.1 (grown_of hW) (fun r e => by cases e)
      have HBB := fun W (hW : Below wr.heap.size wr W) => HJ.out.2.trans (hW.mono HJ.out.2.size)
      have HAL : Hid (∀ W, Below wr.heap.size wr W → J (cP ts k) W) := HAB
      have HBL : Hid (∀ W, Below wr.heap.size wr W → Below w.heap.size w W) := HBB
      clear HAB HBB HJ
      cases hok : rbOK (bys t) with
      | false =>
        have HN := HNO.out (by unfold isC; rw [hok]; rfl)
        rw [HY2 hok] at HRB0
        generalize rbX (bys t) = X at HRB0
        clear hok HY1 HY2 HYES HNO hY
        have HCN : Hid (cP ts (k + 1) = cP ts k) := HN
        clear HN
        gi_wp2_with fail
        refine ⟨trivial, ?_⟩
        refine (callsIn_wide.2 HRB0).mono ?_
        rintro e w3 ⟨u, rfl, o3, b3⟩
        obtain ⟨a4, cap4, rfl⟩ := RowG.slice (OwnR.row o3)
        have b23 := b2.trans (b3.mono b2.size)
        unfold bV Bo.batV
        have b24 := b23.alloc b23.size (.cells #[.bool X.nl, .int .i64 X.c, .int .i64 X.st, .int .i64 X.k, .int .i64 X.l, .string X.n, .slice a4 X.rs.length cap4] 35)
        clear o3 b3 b2 b23 r2 HRB0 hcv c0
        gi_wp2
        refine ⟨fun _ h => (by cases h), ?_⟩
        gi_wp2
        go_roundw
        case rel => exact ⟨k + 1, by omega, by simp, by rw [HCN.out]; exact HAL.out _ b24, HBL.out _ b24⟩
        case measure => simp [intOf]; omega
      | true =>
        obtain ⟨e1, e2⟩ := HY1 hok
        rw [e1, e2] at HRB0
        have hisc : isC t = !(bx t).nl := by unfold isC; rw [hok]; rfl
        have HENC : encs (k, t) = #[.int .i64 (k : Int), rqV (bx t)] := rfl
        clear hok HY1 HY2 e1 e2
        generalize bx t = X at HRB0 hisc HENC
        obtain ⟨nl, c, st, kk, ll, nm, rs⟩ := X
        cases nl with
        | true =>
          have HN := HNO.out hisc
          clear HYES HNO hY HENC hisc
          have HCN : Hid (cP ts (k + 1) = cP ts k) := HN
          clear HN
          gi_wp2_with fail
          refine ⟨trivial, ?_⟩
          refine (callsIn_wide.2 HRB0).mono ?_
          rintro e w3 ⟨u, rfl, o3, b3⟩
          obtain ⟨a4, cap4, rfl⟩ := RowG.slice (OwnR.row o3)
          have b23 := b2.trans (b3.mono b2.size)
          unfold bV Bo.batV
          have b24 := b23.alloc b23.size (.cells #[.bool true, .int .i64 c, .int .i64 st, .int .i64 kk, .int .i64 ll, .string nm, .slice a4 rs.length cap4] 35)
          clear o3 b3 b2 b23 r2 HRB0 hcv c0
          gi_wp2
          refine ⟨fun _ h => (by cases h), ?_⟩
          gi_wp2
          go_roundw
          case rel => exact ⟨k + 1, by omega, by simp, by rw [HCN.out]; exact HAL.out _ b24, HBL.out _ b24⟩
          case measure => simp [intOf]; omega
        | false =>
          obtain ⟨HN, hlt2, hpre⟩ := HYES.out hisc
          clear HYES HNO hisc
          have HCN : Hid (cP ts (k + 1) = cP ts k ++ [(k, t)] ∧ cP ts k ++ [(k, t)] <+: cP ts ts.length) := ⟨HN, hpre⟩
          clear HN hpre
          gi_wp2_with fail
          refine ⟨trivial, ?_⟩
          refine (callsIn_wide.2 HRB0).mono ?_
          rintro e w3 ⟨u, rfl, o3, b3⟩
          obtain ⟨a4, cap4, rfl⟩ := RowG.slice (OwnR.row o3)
          have b23 := b2.trans (b3.mono b2.size)
          unfold bV Bo.batV
          have b24 := b23.alloc b23.size (.cells #[.bool false, .int .i64 c, .int .i64 st, .int .i64 kk, .int .i64 ll, .string nm, .slice a4 rs.length cap4] 35)
          obtain ⟨fn, tmps, assign, body, hy, hRR⟩ := hY _ (k, t) _ (HAL.out _ b24) hlt2
          rw [HENC] at hy
          unfold rqV at hy
          dsimp only at hy
          have HBW := HBL.out _ b24
          clear o3 b3 b2 b23 r2 HRB0 hcv c0 hlt2
          gi_wp2
          refine hRR.mono ?_
          rintro e W3 (⟨rfl, hJ3, hk3⟩ | ⟨rfl, hJx3⟩)
          · gi_wp2
            go_roundw
            case rel => exact ⟨k + 1, by omega, by simp, by rw [HCN.out.1]; exact hJ3, HBW.trans hk3⟩
            case measure => simp [intOf]; omega
          · gi_wp2
            refine bodyPost_ret (results_none rfl _ _ _) rfl ?_
            exact ⟨⟨_, rfl⟩, .inr ⟨_, HCN.out.2, hJx3⟩⟩
    · obtain rfl : k = ts.length := by omega
      gi_wp2
      go_end0
      exact ⟨⟨_, rfl⟩, .inl ⟨_, rfl, HJ.out.1⟩⟩
set_option maxHeartbeats 1000000 in
theorem callsIn_any (n : Nat) (a : Option Addr) (len cap : Nat) (w : World) :
    CallsIn Fence.wide n Try.prog 13 #[.slice a len cap] w fun e w' => e = .returned (.func (.func 17) #[] #[.pointer (some ⟨w.heap.size, 0, none⟩)]) ∧ w' = w.alloc (.cells #[.slice a len cap] 22) := by
  refine callsIn_of_wp Try.func13 rfl trivial ?_ rfl
  simp only [Try.ntmps13, List.size_toArray, List.length_cons, List.length_nil, Nat.reduceAdd, Nat.reduceSub, Array.replicate_succ, Array.replicate_zero, List.push_toArray, List.append_toArray, List.nil_append, List.cons_append]
  gi_wp2
  go_ret
  exact ⟨rfl, rfl⟩
theorem callsIn_stops (n : Nat) (hn : 1 ≤ n) (Bs : Nat) (a : Option Addr) (cap : Nat) (ts : List ByteArray) (w w0 : World) (hR : RowT w (.slice a ts.length cap) ts) (hl : ts.length ≤ 1000000) (hs : ∀ t ∈ ts, t.size ≤ 20000)
    (hw : Below w.heap.size w w0) (hBs : w0.cell? ⟨Bs, 0, none⟩ = some (.slice a ts.length cap)) (hlt : Bs < w0.heap.size) :
    SeqStopsK Fence.wide n Try.prog 17 #[.pointer (some ⟨Bs, 0, none⟩)] encs (Below w.heap.size) (fun ys => ys = cP ts ts.length) (fun pre => pre <+: cP ts ts.length) (cP ts ts.length).length w0 := fun l J Jx W hW hJ _ hY h0 =>
  callsIn1_any n hn l Bs a cap ts w hR hl hs J Jx W hJ hY (hw.trans (hW.mono hw.size)) ((hW.cell (p := ⟨Bs, 0, none⟩) hlt).trans hBs) h0
end Go.Proofs.Ytkmnjnblacmjlaa.Hn
