/- Texts put together: Cb, Hc, HashLaid. -/
import Derived.Test.YtddmdnljfnimbaaGreatDoorM1
import Derived.Test.YtddmdnljfnimbaaGreatDoorM3
import Derived.Test.YtddmdnljfnimbaaGreatDoorM19
import Derived.Maps.AppendAt
import Derived.Deep.RegionHeldLaw
import Derived.Test.YtddmdnljfnimbaaGreatDoorM5
import Derived.Test.YtddmdnljfnimbaaGreatDoorCards
import Derived.Test.YtddmdnljfnimbaaGreatDoorTie
import Derived.ProofKit
import Derived.LaidMore
import Derived.OpenShut
import Derived.OpenVars
import Derived.Stop.Joined
import Derived.ShutString
import Derived.Lib.LaidTab
/- Certificates: their form, their bytes: the program. -/
namespace Go.Proofs.YtddmdnljfnimbaaGreatDoor.Cb
open Go.RowKit Go.Proofs.YtddmdnljfnimbaaGreatDoor.Sl Go.Proofs.YtddmdnljfnimbaaGreatDoor.By Go.Proofs.YtddmdnljfnimbaaGreatDoor.Ap Go.Proofs.YtddmdnljfnimbaaGreatDoor.Rq Go.Proofs.YtddmdnljfnimbaaGreatDoor.Ms Go.Proofs.YtddmdnljfnimbaaGreatDoor.Mp Go.Proofs.YtddmdnljfnimbaaGreatDoor.Rp Go.Proofs.YtddmdnljfnimbaaGreatDoor.Lb Go.Proofs.YtddmdnljfnimbaaGreatDoor.Gm
open Go.Proofs.YtddmdnljfnimbaaGreatDoor.Ty (RowT tnth)
open Go.Proofs.YtddmdnljfnimbaaGreatDoor.Tl (OwnS)
open Go.Proofs.YtddmdnljfnimbaaGreatDoor.Rg (RowG RowG.slice RowG.at lt_at mem_at blk_cell bel_new)

def crtV (bd : ByteArray) (vr : Value) : Value := .agg #[.string bd, vr]
/-- A right PbPrepare; a certificate that has its form; its texts. -/
def mB (x : Mg) : Bool := msgB x.kd x.vw x.sq x.fr x.dg x.bd x.mc
def mOK (x : Mg) : Bool := (x.kd == 2) && mB x
def cfB (ms : List Mg) : Bool := decide (ms.length ≤ 7) && ms.all mOK
def mTx (x : Mg) : ByteArray := strOfNums (msgBs x.kd x.vw x.sq x.fr x.dg x.bd x.mc)
def cTs (bd : ByteArray) (ms : List Mg) : List ByteArray := bd :: ms.map mTx
def cOut (bd : ByteArray) (ms : List Mg) : List Int := if cfB ms then lbOut (cTs bd ms) else []
def cCode (bd : ByteArray) (ms : List Mg) : Int := if cfB ms then lbCode (cTs bd ms) else 1
theorem ret_b {a b : Bool} (h : a = b) : Ending.returned (.bool a) = .returned (.bool b) := by rw [h]
theorem all_step {ms : List Mg} {k : Nat} {x : Mg} (h : ms[k]? = some x) : (ms.drop k).all mOK = (mOK x && (ms.drop (k + 1)).all mOK) := by
  obtain ⟨hk, rfl⟩ := List.getElem?_eq_some_iff.1 h
  rw [List.drop_eq_getElem_cons hk, List.all_cons]
theorem all_end {ms : List Mg} : (ms.drop ms.length).all mOK = true := by rw [List.drop_length]; rfl
theorem mTx_size (x : Mg) : (mTx x).size = 7 + x.dg.size + x.bd.size + x.mc.size := by unfold mTx; rw [strOfNums_size, msgBs_length]
theorem ok_size {x : Mg} (h : mOK x = true) : (mTx x).size = 47 ∧ mB x = true := by
  unfold mOK at h
  rw [Bool.and_eq_true, beq_iff_eq] at h
  refine ⟨?_, h.2⟩
  have h2 : msgB x.kd x.vw x.sq x.fr x.dg x.bd x.mc = true := h.2
  obtain ⟨_, _, hm⟩ := msg_small h2
  rw [h.1, msg_eq] at h2
  simp only [Bool.and_eq_true] at h2
  have h5 := h2.2.2.2.2
  rw [kind2, empty_size] at h5
  unfold placeB at h5
  simp only [Bool.and_eq_true, decide_eq_true_eq, beq_iff_eq] at h5
  rw [mTx_size]
  omega
theorem cf_all {ms : List Mg} (h : cfB ms = true) : ms.length ≤ 7 ∧ ∀ x ∈ ms, mOK x = true := by
  unfold cfB at h
  rw [Bool.and_eq_true, decide_eq_true_eq, List.all_eq_true] at h
  exact h
theorem cTs_step {bd : ByteArray} {ms : List Mg} {k : Nat} {x : Mg} (h : ms[k]? = some x) : cTs bd (ms.take (k + 1)) = cTs bd (ms.take k) ++ [mTx x] := by
  unfold cTs
  rw [List.take_add_one, h]
  simp
theorem one_kept {w w1 : World} {x : Mg} (b : Below (w.alloc (.cells #[.int .i64 x.kd, .int .i64 x.vw, .int .i64 x.sq, .int .i64 x.fr, .string x.dg, .string x.bd, .string x.mc] 39)).heap.size (w.alloc (.cells #[.int .i64 x.kd, .int .i64 x.vw, .int .i64 x.sq, .int .i64 x.fr, .string x.dg, .string x.bd, .string x.mc] 39)) w1) : Below w.heap.size w w1 := (bel_new w _).trans (b.mono (by simp))
set_option maxRecDepth 100000 in
set_option maxHeartbeats 800000 in
theorem certFormed_any (bd : ByteArray) (vr : Value) (ms : List Mg) (w : World) (h : Row w vr ms) (hl : ms.length ≤ 1048576) :
    Calls Tryz.prog 102 #[crtV bd vr] w fun e w' => e = .returned (.bool (cfB ms)) ∧ Below w.heap.size w w' := by
  have HR : Hid (Row w vr ms) := h
  obtain ⟨a, cap, rfl⟩ := RowG.slice h
  clear h
  unfold crtV
  have HB : Hid (Below w.heap.size w (w.alloc (.cells #[.string bd, .slice a ms.length cap] 29))) := bel_new _ _
  have HE : Hid (cfB ms = (decide (ms.length ≤ 7) && ms.all mOK)) := rfl
  by_cases h7 : (7 : Int) < (ms.length : Int)
  · rw [decide_eq_false (by omega : ¬ ms.length ≤ 7)] at HE
    go_enter Tryz.func102, Tryz.ntmps102
    go_wp2_with fail
    go_ret
    exact ⟨ret_b (by rw [HE.out]; rfl), HB.out⟩
  rw [decide_eq_true (by omega : ms.length ≤ 7), Bool.true_and] at HE
  go_enter Tryz.func102, Tryz.ntmps102
  go_wp2_with fail
  go_loopw [12] (fun i wr => ∃ k : Nat, k ≤ ms.length ∧ i = .int .i64 k ∧ Hid (ms.all mOK = (ms.drop k).all mOK ∧ Below w.heap.size w wr)) (fun i _ => ms.length - (intOf i).toNat)
  case atStart => exact ⟨0, by omega, rfl, ⟨by rw [List.drop_zero], HB.out⟩⟩
  case round =>
    obtain ⟨k, hk, rfl, HZ⟩ := hrel
    by_cases hlt : k < ms.length
    · obtain ⟨x, hx⟩ := Rg.get_at hlt
      obtain ⟨b, off, rfl, hbl, c0, c1, c2, c3, c4, c5, c6⟩ := RowG.at (HR.out.below HZ.out.2) rfl hx
      have HX : Hid (ms.all mOK = (mOK x && (ms.drop (k + 1)).all mOK)) := HZ.out.1.trans (all_step hx)
      have HBW : Hid (Below w.heap.size w (wr.alloc (.cells #[.int .i64 x.kd, .int .i64 x.vw, .int .i64 x.sq, .int .i64 x.fr, .string x.dg, .string x.bd, .string x.mc] 39))) := HZ.out.2.alloc HZ.out.2.size _
      have HMO : Hid (Calls Tryz.prog 81 #[.agg #[.int .i64 x.kd, .int .i64 x.vw, .int .i64 x.sq, .int .i64 x.fr, .string x.dg, .string x.bd, .string x.mc]] (wr.alloc (.cells #[.int .i64 x.kd, .int .i64 x.vw, .int .i64 x.sq, .int .i64 x.fr, .string x.dg, .string x.bd, .string x.mc] 39)) fun e w' => e = .returned (.bool (mB x)) ∧ Below (wr.alloc (.cells #[.int .i64 x.kd, .int .i64 x.vw, .int .i64 x.sq, .int .i64 x.fr, .string x.dg, .string x.bd, .string x.mc] 39)).heap.size (wr.alloc (.cells #[.int .i64 x.kd, .int .i64 x.vw, .int .i64 x.sq, .int .i64 x.fr, .string x.dg, .string x.bd, .string x.mc] 39)) w') := implMessageOK_any x.kd x.vw x.sq x.fr x.dg x.bd x.mc _
      have HOE : Hid (mOK x = ((x.kd == 2) && mB x)) := rfl
      clear hx HZ
      by_cases hkd : x.kd = 2
      · have hk1 : (x.kd != 2) = false := by simp [hkd]
        have hk2 : (x.kd == 2) = true := by simp [hkd]
        rw [hk2, Bool.true_and] at HOE
        clear hkd
        cases hm : mB x with
        | false =>
          rw [hm] at HMO HOE
          have HF : Hid (ms.all mOK = false) := by show _ = _; rw [HX.out, HOE.out]; rfl
          go_wp2_with fail
          refine HMO.out.mono ?_
          rintro e w2 ⟨rfl, b2⟩
          have B2 : Hid (Below w.heap.size w w2) := HBW.out.trans (b2.mono HBW.out.size)
          clear b2
          go_wp2_with fail
          go_ret
          exact ⟨ret_b (by rw [HE.out, HF.out]), B2.out⟩
        | true =>
          rw [hm] at HMO HOE
          have HF : Hid (ms.all mOK = (ms.drop (k + 1)).all mOK) := by show _ = _; rw [HX.out, HOE.out]; rfl
          go_wp2_with fail
          refine HMO.out.mono ?_
          rintro e w2 ⟨rfl, b2⟩
          have B2 : Hid (Below w.heap.size w w2) := HBW.out.trans (b2.mono HBW.out.size)
          clear b2
          go_wp2_with fail
          exact ⟨⟨k + 1, by omega, by go_num, ⟨HF.out, B2.out⟩⟩, by simp [intOf]; omega⟩
      · have hk1 : (x.kd != 2) = true := by simp [hkd]
        have hk2 : (x.kd == 2) = false := by simp [hkd]
        rw [hk2, Bool.false_and] at HOE
        have HF : Hid (ms.all mOK = false) := by show _ = _; rw [HX.out, HOE.out]; rfl
        clear hkd
        go_wp2_with fail
        go_ret
        exact ⟨ret_b (by rw [HE.out, HF.out]), HBW.out⟩
    · obtain rfl : k = ms.length := by omega
      have HF : Hid (ms.all mOK = true) := HZ.out.1.trans all_end
      go_wp2_with fail
      go_ret
      exact ⟨ret_b (by rw [HE.out, HF.out]), HZ.out.2⟩
/-- One text more. -/
theorem list_txt {P : Program} {ops : Array Oper} {rest : List Oper} {o : Oper} {a : Act} {Q : Exit → Act → World → Prop} (hgd : o.guard = none) (s x : Operand) (t : TypeId)
    (ho : o.op = .call { callee := .builtin .append, args := #[s, x], argTypes := #[t, t] }) (i : TypeInfo) (ht : P.underlying t = some (.slice 9)) (hi : P.info? 9 = some i) (hz : i.zero = some (.string ⟨#[]⟩))
    (hsize : i.size = 1) (hby : i.bytes = 16) (B : Nat) (w0 W : World) (v : Value) (ts : List ByteArray) (z : ByteArray) (hs : a.eval s = v) (hown : OwnS W B v ts) (hg0 : Below B w0 W) (hB : B ≤ W.heap.size)
    (hx : a.eval x = .slice (some ⟨W.heap.size, 0, none⟩) 1 1) (hlen : ts.length ≤ 1000000)
    (h : ∀ v' w', OwnS w' B v' (ts ++ [z]) → Below B w0 w' → wpList P ops Q rest (a.put o.dst v') w') : wpList P ops Q (o :: rest) a (W.alloc (.cells #[.string z] 9)) := by
  have hown' : OwnS (W.alloc (.cells #[.string z] 9)) B v ts := hown.alloc _
  refine wpList_append_own_at (P := P) _ hgd s x t ho B 9 i (.string ⟨#[]⟩) 1 16 ht hi hz hsize hby rfl (by decide) v ts.length _ hs hown' ⟨W.heap.size, 0, none⟩ 1 1 [.string z] hx (by simp) (cell_one_new _ _ _) ?_ (by unfold maxLen; omega) (by omega) (by simp; omega) ?_
  · intro c hc
    simp at hc
    subst hc
    rfl
  · intro v' w' h1 h2 h3 h4
    exact h v' w' (by unfold OwnS; simpa using h1) ((hg0.alloc hB _).grown h2 (by simp; omega) (fun k hk => (hown'.lt k hk).1))
theorem own_txt1 (w : World) (B : Nat) (z : ByteArray) (hB : B ≤ w.heap.size) : OwnS (w.alloc (.cells #[.string z] 9)) B (.slice (some ⟨w.heap.size, 0, none⟩) 1 1) [z] :=
  ⟨rfl, .inr ⟨w.heap.size, 1, #[.string z], rfl, hB, heap_alloc_new w _, Nat.le_refl _, by unfold maxLen; decide, rfl, rfl⟩⟩
end Go.Proofs.YtddmdnljfnimbaaGreatDoor.Cb

/- The laws' helpers over certificates. -/
namespace Go.Proofs.YtddmdnljfnimbaaGreatDoor.Hc
open Go.RowKit Go.Proofs.YtddmdnljfnimbaaGreatDoor.Sl Go.Proofs.YtddmdnljfnimbaaGreatDoor.Rg Go.Proofs.YtddmdnljfnimbaaGreatDoor.Gm Go.Proofs.YtddmdnljfnimbaaGreatDoor.Cb

theorem e_of_block {w w' : World} {g o : Nat} {x : Mg} (h : w'.heap[g]? = w.heap[g]?) (hx : E1 w g o x) : E1 w' g o x := by
  obtain ⟨h0, h1, h2, h3, h4, h5, h6⟩ := hx
  exact ⟨(World.cell?_of_block (a := ⟨g, _, none⟩) h).trans h0, (World.cell?_of_block (a := ⟨g, _, none⟩) h).trans h1, (World.cell?_of_block (a := ⟨g, _, none⟩) h).trans h2, (World.cell?_of_block (a := ⟨g, _, none⟩) h).trans h3, (World.cell?_of_block (a := ⟨g, _, none⟩) h).trans h4, (World.cell?_of_block (a := ⟨g, _, none⟩) h).trans h5, (World.cell?_of_block (a := ⟨g, _, none⟩) h).trans h6⟩
set_option maxRecDepth 100000 in
set_option maxHeartbeats 1600000 in
theorem to_any (bd : ByteArray) (vr : Value) (rs : List Mg) (w : World) (h : Row w vr rs) (hl : rs.length ≤ 1048576) :
    Calls Tryz.prog 8 #[crtV bd vr] w fun e w' => ∃ g, e = .returned (crtV bd (.slice (some ⟨g, 0, none⟩) rs.length rs.length)) ∧ w.heap.size ≤ g ∧ g < w'.heap.size ∧ (∀ i x, rs[i]? = some x → E1 w' g (i * 7) x) ∧ Below w.heap.size w w' ∧ Wr w' g (rs.length * 7) := by
  have HR : Hid (Row w vr rs) := h
  clear h
  unfold crtV
  have HB : Hid (∀ o0 o1 o2, Below w.heap.size w (((w.alloc o0).alloc o1).alloc o2)) := fun o0 o1 o2 => (three (Below.refl _ _)).2.2.2.2
  have HS : Hid (∀ o0 o1 o2, (((w.alloc o0).alloc o1).alloc o2).heap.size = w.heap.size + 1 + 1 + 1) := fun o0 o1 o2 => by rw [Rg.size_new, Rg.size_new, Rg.size_new]
  go_enter Tryz.func8, Tryz.ntmps8
  go_wp2_with fail
  refine (toS_any vr rs _ (HR.out.below (HB.out _ _ _)) hl).mono ?_
  rintro e w3 ⟨g, rfl, hg0, hg1, hr, b3, hwr⟩
  obtain ⟨k0, k1, k2, kS, kB⟩ := three b3
  have hgS : w.heap.size + 1 + 1 + 1 ≤ g := by rw [HS.out] at hg0; exact hg0
  have K13 : Hid (w3.heap[w.heap.size + 1]? = some (.cells #[.string ⟨#[]⟩, .slice none 0 0] 29 (0, 0))) := k1
  have K23 : Hid (w3.heap[w.heap.size + 1 + 1]? = some (.cells #[.string bd, .slice none 0 0] 29 (0, 0))) := k2
  have KB3 : Hid (Below w.heap.size w w3) := kB
  have KR : Hid (g < w3.heap.size ∧ (∀ i y, rs[i]? = some y → E1 w3 g (i * 7) y) ∧ Wr w3 g (rs.length * 7)) := ⟨hg1, hr, hwr⟩
  clear hg0 hg1 hr b3 hwr k0 k1 k2 kS kB HB HS
  obtain ⟨s0, t0⟩ := blk_cell K23.out 1 (x := .slice none 0 0) rfl
  have B2 : Hid ((w3.setCell ⟨w.heap.size + 1 + 1, 1, none⟩ (.slice (some ⟨g, 0, none⟩) rs.length rs.length)).heap[w.heap.size + 1 + 1]? = some (.cells #[.string bd, .slice (some ⟨g, 0, none⟩) rs.length rs.length] 29 (0, 0))) := blk_set K23.out 1 (.slice (some ⟨g, 0, none⟩) rs.length rs.length)
  have A2 : Hid ((w3.setCell ⟨w.heap.size + 1 + 1, 1, none⟩ (.slice (some ⟨g, 0, none⟩) rs.length rs.length)).heap[w.heap.size + 1]? = some (.cells #[.string ⟨#[]⟩, .slice none 0 0] 29 (0, 0))) := (blk_far (by omega) 1 (.slice (some ⟨g, 0, none⟩) rs.length rs.length)).trans K13.out
  have G2 : Hid (Below w.heap.size w (w3.setCell ⟨w.heap.size + 1 + 1, 1, none⟩ (.slice (some ⟨g, 0, none⟩) rs.length rs.length))) := Below.setCell KB3.out (p := ⟨w.heap.size + 1 + 1, 1, none⟩) (by show _ ≤ w.heap.size + 1 + 1; omega) (.slice (some ⟨g, 0, none⟩) rs.length rs.length)
  have R2 : Hid (g < (w3.setCell ⟨w.heap.size + 1 + 1, 1, none⟩ (.slice (some ⟨g, 0, none⟩) rs.length rs.length)).heap.size ∧ (∀ i y, rs[i]? = some y → E1 (w3.setCell ⟨w.heap.size + 1 + 1, 1, none⟩ (.slice (some ⟨g, 0, none⟩) rs.length rs.length)) g (i * 7) y) ∧ Wr (w3.setCell ⟨w.heap.size + 1 + 1, 1, none⟩ (.slice (some ⟨g, 0, none⟩) rs.length rs.length)) g (rs.length * 7)) := ⟨by simpa using KR.out.1, fun i y hy => e_of_block (blk_far (by omega) 1 (.slice (some ⟨g, 0, none⟩) rs.length rs.length)) (KR.out.2.1 i y hy), KR.out.2.2.set _ _ _⟩
  clear K13 K23 KB3 KR
  go_upto_region 4 with fail
  generalize (w3.setCell ⟨w.heap.size + 1 + 1, 1, none⟩ (.slice (some ⟨g, 0, none⟩) rs.length rs.length)) = w9 at B2 A2 G2 R2 ⊢
  have p0 := (blk_cell B2.out 0 (x := .string bd) rfl).1
  have p1 := (blk_cell B2.out 1 (x := .slice (some ⟨g, 0, none⟩) rs.length rs.length) rfl).1
  obtain ⟨m0, n0⟩ := blk_cell A2.out 0 (x := .string ⟨#[]⟩) rfl
  obtain ⟨m1, n1⟩ := blk_cell A2.out 1 (x := .slice none 0 0) rfl
  have AF : ((w9.setCell ⟨w.heap.size + 1, 0, none⟩ (.string bd)).setCell ⟨w.heap.size + 1, 1, none⟩ (.slice (some ⟨g, 0, none⟩) rs.length rs.length)).heap[w.heap.size + 1]? = some (.cells #[.string bd, .slice (some ⟨g, 0, none⟩) rs.length rs.length] 29 (0, 0)) := (blk_set (blk_set A2.out 0 (.string bd)) 1 (.slice (some ⟨g, 0, none⟩) rs.length rs.length))
  have FF : ((w9.setCell ⟨w.heap.size + 1, 0, none⟩ (.string bd)).setCell ⟨w.heap.size + 1, 1, none⟩ (.slice (some ⟨g, 0, none⟩) rs.length rs.length)).heap[g]? = w9.heap[g]? := ((blk_far (by omega) 1 (.slice (some ⟨g, 0, none⟩) rs.length rs.length)).trans ((blk_far (by omega) 0 (.string bd)).trans (Eq.refl w9.heap[g]?)))
  have RF : Hid (g < ((w9.setCell ⟨w.heap.size + 1, 0, none⟩ (.string bd)).setCell ⟨w.heap.size + 1, 1, none⟩ (.slice (some ⟨g, 0, none⟩) rs.length rs.length)).heap.size ∧ (∀ i y, rs[i]? = some y → E1 ((w9.setCell ⟨w.heap.size + 1, 0, none⟩ (.string bd)).setCell ⟨w.heap.size + 1, 1, none⟩ (.slice (some ⟨g, 0, none⟩) rs.length rs.length)) g (i * 7) y) ∧ Wr ((w9.setCell ⟨w.heap.size + 1, 0, none⟩ (.string bd)).setCell ⟨w.heap.size + 1, 1, none⟩ (.slice (some ⟨g, 0, none⟩) rs.length rs.length)) g (rs.length * 7) ∧ Below w.heap.size w ((w9.setCell ⟨w.heap.size + 1, 0, none⟩ (.string bd)).setCell ⟨w.heap.size + 1, 1, none⟩ (.slice (some ⟨g, 0, none⟩) rs.length rs.length))) := ⟨by simpa using R2.out.1, fun i y hy => e_of_block FF (R2.out.2.1 i y hy), ((R2.out.2.2.set _ _ _).set _ _ _), (Below.setCell (Below.setCell G2.out (p := ⟨w.heap.size + 1, 0, none⟩) (by show _ ≤ w.heap.size + 1; omega) (.string bd)) (p := ⟨w.heap.size + 1, 1, none⟩) (by show _ ≤ w.heap.size + 1; omega) (.slice (some ⟨g, 0, none⟩) rs.length rs.length))⟩
  clear FF R2 G2
  go_wp2_with fail
  generalize ((w9.setCell ⟨w.heap.size + 1, 0, none⟩ (.string bd)).setCell ⟨w.heap.size + 1, 1, none⟩ (.slice (some ⟨g, 0, none⟩) rs.length rs.length)) = wf at AF RF ⊢
  have d0 := (blk_cell AF 0 (x := .string bd) rfl).1
  have d1 := (blk_cell AF 1 (x := .slice (some ⟨g, 0, none⟩) rs.length rs.length) rfl).1
  exact bodyPost_ret (v := crtV bd (.slice (some ⟨g, 0, none⟩) rs.length rs.length)) (by simp [crtV, results, Tryz.results8, go_sem, d0, d1]) rfl ⟨g, rfl, by omega, RF.out.1, RF.out.2.1, RF.out.2.2.2, RF.out.2.2.1⟩
set_option maxRecDepth 100000 in
set_option maxHeartbeats 1600000 in
theorem sz_any (bd : ByteArray) (vr : Value) (rs : List Mg) (w : World) (h : Row w vr rs) (hm : ∀ x ∈ rs, Tz maxLen x) (hz : rs.length ≤ maxLen) (hn : bd.size ≤ maxLen) :
    Calls Tryz.prog 6 #[crtV bd vr, .int .i64 1048576] w fun e w' => (∃ r : Int, e = .returned (.int .i64 r) ∧ (r = -1 ∨ ∃ q : Nat, r = q ∧ bd.size ≤ 1048576 ∧ rs.length ≤ 1048576 ∧ ∀ x ∈ rs, Tz 1048576 x)) ∧ Below w.heap.size w w' := by
  have HR : Hid (Row w vr rs ∧ (∀ x ∈ rs, Tz maxLen x) ∧ rs.length ≤ maxLen) := ⟨h, hm, hz⟩
  clear h hm hz
  unfold crtV
  have hn2 : bd.size ≤ 9223372036854775807 := by unfold maxLen at hn; omega
  clear hn
  have HB1 : Hid (Below w.heap.size w (w.alloc (.cells #[.string bd, vr] 24))) := bel_new _ _
  by_cases hb : (1048576 : Int) < (bd.size : Int)
  · have hb' : (1048576 : Int) - (bd.size : Int) < 0 := by omega
    go_enter Tryz.func6, Tryz.ntmps6
    go_wp2_with fail
    go_ret
    exact ⟨⟨_, rfl, .inl rfl⟩, HB1.out⟩
  · obtain ⟨q, HQ⟩ : ∃ q : Nat, (1048576 : Int) - (bd.size : Int) = q ∧ q ≤ 1048576 := ⟨1048576 - bd.size, by omega, by omega⟩
    have hq0 : ¬ (q : Int) < 0 := by omega
    have hq1 : ¬ (1048576 : Int) - (bd.size : Int) < 0 := by omega
    have HC := szS_any vr rs q (w.alloc (.cells #[.string bd, vr] 24)) (HR.out.1.below HB1.out) HR.out.2.1 HR.out.2.2 HQ.2
    rw [← HQ.1] at HC
    clear HQ
    go_enter Tryz.func6, Tryz.ntmps6
    go_wp2_with fail
    refine HC.mono ?_
    rintro e w2 ⟨⟨r, rfl, hr⟩, b2⟩
    have HB2 : Hid (Below w.heap.size w w2) := HB1.out.trans (b2.mono HB1.out.size)
    clear b2 HC
    rcases hr with rfl | ⟨p, rfl, hp1, hp2, hp3⟩
    · go_wp2_with fail
      go_ret
      exact ⟨⟨_, rfl, .inl rfl⟩, HB2.out⟩
    · have hp0 : ¬ (p : Int) < 0 := by omega
      have HP : Hid (∀ x ∈ rs, Tz 1048576 x) := hp3
      clear hp3
      go_wp2_with fail
      go_ret
      exact ⟨⟨_, rfl, .inr ⟨p, rfl, by omega, hp2, HP.out⟩⟩, HB2.out⟩
set_option maxRecDepth 100000 in
set_option maxHeartbeats 1600000 in
theorem eq_same (bd : ByteArray) (vr ur : Value) (rs : List Mg) (w : World) (h : Row w vr rs) (g : Row w ur rs) (hl : rs.length ≤ 1048576) :
    Calls Tryz.prog 10 #[crtV bd vr, crtV bd ur] w fun e w' => e = .returned (.bool true) ∧ Below w.heap.size w w' := by
  have HR : Hid (Row w vr rs ∧ Row w ur rs) := ⟨h, g⟩
  clear h g
  unfold crtV
  have hne : (bd.toList != bd.toList) = false := by simp
  have hne2 : (bd.toList == bd.toList) = true := by simp
  have HB1 : Hid (Below w.heap.size w ((w.alloc (.cells #[.string bd, vr] 29)).alloc (.cells #[.string bd, ur] 29))) := ((Below.refl _ _).alloc (Nat.le_refl _) _).alloc (by simp) _
  go_enter Tryz.func10, Tryz.ntmps10
  go_wp2_with fail
  refine (eqS_same vr ur rs _ (HR.out.1.below HB1.out) (HR.out.2.below HB1.out) hl).mono ?_
  rintro e w2 ⟨rfl, b2⟩
  have HB2 : Hid (Below w.heap.size w w2) := HB1.out.trans (b2.mono HB1.out.size)
  clear b2
  go_wp2_with fail
  go_ret
  exact ⟨rfl, HB2.out⟩
end Go.Proofs.YtddmdnljfnimbaaGreatDoor.Hc
namespace Go.Proofs.YtddmdnljfnimbaaGreatDoor.Op
open Go.ChangeShapes Go.WideShapes Go.ChangeAt Go.RowKit Go.Deep Go.Proofs.YtddmdnljfnimbaaGreatDoor.Gm Go.Proofs.YtddmdnljfnimbaaGreatDoor.Cb
set_option maxRecDepth 100000 in
theorem open_cert {H : Type} {enc : TypeId × Value → H} {w : World} {base : Nat} {spare : Nat → Bool} {held : Bool} {r : Reach} {b0 : Nat} {v : Value} {d : DataW H} {p : List MemPlace}
    (hv : Value.okWide Tryz.prog w r b0 24 v) (h : DataW.Trod enc Tryz.prog w base spare held 24 v d p) :
    ∃ (bd : ByteArray) (vr : Value) (rs : List Mg), v = crtV bd vr ∧ Row w vr rs ∧ rs.length ≤ maxLen ∧ (∀ x ∈ rs, Tz maxLen x) ∧ bd.size ≤ maxLen := by
  have k2 : Tryz.prog.cellsOf 9 = 1 := by kernel_rfl
  have k5 : Tryz.prog.cellsOf 22 = 1 := by kernel_rfl
  obtain ⟨cs, rfl, hsz⟩ := okWide_struct Tryz.underlying24 hv
  obtain ⟨fuel, hf⟩ := h
  obtain ⟨xs, n, _, _, hl, hlen, hfs⟩ := DataW.trod_struct Tryz.underlying24 hf
  have hsz2 : cs.size = 2 := hsz.trans (by kernel_rfl)
  obtain ⟨cl⟩ := cs
  match cl, hsz2 with
  | [c0, c1], _ =>
    match xs, hlen with
    | [y0, y1], _ =>
      have g0 := hfs 0 _ rfl
      have g1 := hfs 1 _ rfl
      simp [Value.cells, k2, k5] at g0 g1
      obtain ⟨z0, q0, _, m0⟩ := DataW.trod_string Tryz.underlying9 g0
      obtain ⟨v6, rs, q6, r6, l6, t6⟩ := openGm g1
      simp at q0 q6
      subst q0 q6
      exact ⟨z0, _, rs, rfl, r6, l6, t6, m0⟩
end Go.Proofs.YtddmdnljfnimbaaGreatDoor.Op

/- The table of round constants, as the row lists it; a world for the witness. -/
namespace Go.Proofs.YtddmdnljfnimbaaGreatDoor.Hl
open Go.ChangeShapes Go.WideShapes Go.ChangeAt Go.RowKit Go.Proofs.YtddmdnljfnimbaaGreatDoor.Sh

theorem own : ownKnob Tryz.prog.godebug = none := by kernel_rfl
theorem laidOut : laidOutB Tryz.prog = true := by kernel_rfl
theorem gTab : Tryz.prog.globalNamed "loop.example/g00292/impl.roundWords" = some 0 := by kernel_rfl
theorem tTab : (Tryz.prog.globals[0]?).map (·.type) = some 168 := by kernel_rfl
theorem cells64 : Tryz.prog.cellsOf 168 = 64 := by kernel_rfl
theorem cells1 : Tryz.prog.cellsOf 141 = 1 := by kernel_rfl
theorem rowed : varsRowed Tryz.prog ["loop.example/g00292/impl.roundWords"] = true := by kernel_rfl
abbrev laidList : List (String × DataW Unit) := [("loop.example/g00292/impl.roundWords", Rows.laid_loop_example_g00292_impl_roundWords)]

theorem door_met (os : Os) (args : Array Value) : laidMetH Tryz.prog laidList ((World.doorLaid Tryz.prog 400 os).forCall (fun _ _ => 0) ⟨#[], args, []⟩).memory :=
  laidMetH_of_parts3 (fuel := 8) (laidMet_of_run' 8 (by kernel_rfl) (by kernel_rfl)) (by kernel_rfl) (by kernel_rfl)
theorem list_eq : (Rows.laid_loop_example_g00292_impl_roundWords : DataW Unit) = Lib.tabData .u32 (kList.map nat) := by kernel_rfl
theorem k_len : kList.length = 64 := by decide

/-- What the row's list gives the walks; and the variable's block lies among the old ones. -/
theorem tab_of {W : World} (h : laidMetH Tryz.prog laidList W) : KTab W ∧ 0 < W.heap.size := by
  rw [MakeChecks.laidMetH_plain _ _ _ (by kernel_rfl)] at h
  obtain ⟨ps, ⟨g0, t0, cs0, f0, p0, q0, hg0, ht0, hv0, hd0, _, _⟩, _, _⟩ := h
  obtain rfl := Option.some.inj (gTab.symm.trans hg0)
  obtain rfl := Option.some.inj (tTab.symm.trans ht0)
  have e : cs0.toList = (kList.map nat).map fun z => Value.int .u32 z := Lib.cells_of_tab Tryz.underlying168 Tryz.underlying141 cells1 cells64 (by rw [← list_eq]; exact hd0)
  have ht : KTab W := by
    intro i hi
    have hl := k_len
    rw [World.var?_cell hg0 hv0 i, ← Array.getElem?_toList, e, List.map_map, List.getElem?_map, List.getElem?_eq_getElem (by omega)]
    unfold kt
    rw [List.getD_eq_getElem?_getD, List.getElem?_eq_getElem (by omega)]
    rfl
  exact ⟨ht, World.block_lt_of_cell? W _ (ht 0 (by decide))⟩
end Go.Proofs.YtddmdnljfnimbaaGreatDoor.Hl
