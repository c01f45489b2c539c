/- Texts put together: Tm, Qm, Sm6, Si2. -/
import Derived.Test.YtdeologdmdimoaaDoorRows
import Derived.WalkKit
import Derived.ProofKit
import Derived.WalkSpells
import Derived.Below
import Derived.Laws.NewBlocks
import Derived.Test.YtdeologdmdimoaaDoorMsgPut
import Derived.Test.YtdeologdmdimoaaDoorJFnSigned1
import Derived.Test.YtdeologdmdimoaaDoorQc
import Derived.Deep.RegionHeldLaw
/- FaultsOf and AddTime, of the program and of the specification. -/
namespace Go.Proofs.YtdeologdmdimoaaDoor.Tm
open Go.RowKit

/-- What FaultsOf answers. -/
def fOut (n : Int) : Int := if n = 1 then 0 else if n = 4 then 1 else if n = 7 then 2 else 0
def fCode (n : Int) : Int := if n = 1 ∨ n = 4 ∨ n = 7 then 0 else 4
/-- What AddTime answers. -/
def adT (a b : Int) : Int := min (max a 0 + max b 0) 9223372036854775807
theorem ret_i {a b : Int} (h : a = b) : Ending.returned (.int .i64 a) = .returned (.int .i64 b) := by rw [h]
theorem ret_ii {a b c d : Int} (h : a = c ∧ b = d) : Ending.returned (.tuple #[.int .i64 a, .int .i64 b]) = .returned (.tuple #[.int .i64 c, .int .i64 d]) := by rw [h.1, h.2]
theorem f_cases (n : Int) : n = 1 ∨ n = 4 ∨ n = 7 ∨ (n ≠ 1 ∧ n ≠ 4 ∧ n ≠ 7 ∧ fOut n = 0 ∧ fCode n = 4) := by
  by_cases h1 : n = 1
  · exact .inl h1
  by_cases h2 : n = 4
  · exact .inr (.inl h2)
  by_cases h3 : n = 7
  · exact .inr (.inr (.inl h3))
  refine .inr (.inr (.inr ⟨h1, h2, h3, ?_, ?_⟩))
  · unfold fOut; rw [if_neg h1, if_neg h2, if_neg h3]
  · unfold fCode; rw [if_neg (by omega)]
set_option maxRecDepth 100000 in
set_option maxHeartbeats 400000 in
theorem implFaultsOf_any (n : Int) (w : World) : Calls Tryd.prog 12 #[.int .i64 n] w fun e w' => e = .returned (.tuple #[.int .i64 (fOut n), .int .i64 (fCode n)]) ∧ w' = w := by
  rcases f_cases n with rfl | rfl | rfl | ⟨h1, h2, h3, e1, e2⟩
  · go_enter Tryd.func12, Tryd.ntmps12
    go_wp2
    go_ret2
    exact ⟨ret_ii ⟨by decide, by decide⟩, rfl⟩
  · go_enter Tryd.func12, Tryd.ntmps12
    go_wp2
    go_ret2
    exact ⟨ret_ii ⟨by decide, by decide⟩, rfl⟩
  · go_enter Tryd.func12, Tryd.ntmps12
    go_wp2
    go_ret2
    exact ⟨ret_ii ⟨by decide, by decide⟩, rfl⟩
  · have HE : Hid (fOut n = 0 ∧ fCode n = 4) := ⟨e1, e2⟩
    have b1 : (n == 1) = false := by simpa using h1
    have b2 : (n == 4) = false := by simpa using h2
    have b3 : (n == 7) = false := by simpa using h3
    clear h1 h2 h3 e1 e2
    go_enter Tryd.func12, Tryd.ntmps12
    go_wp2
    go_ret2
    exact ⟨ret_ii ⟨HE.out.1.symm, HE.out.2.symm⟩, rfl⟩
end Go.Proofs.YtdeologdmdimoaaDoor.Tm

/- QuorumOf and PrimaryOf, of the program and of the specification. -/
namespace Go.Proofs.YtdeologdmdimoaaDoor.Qm
open Go.RowKit Go.Proofs.YtdeologdmdimoaaDoor.Tm

/-- What QuorumOf and PrimaryOf answer. -/
def qOut (n : Int) : Int := if n = 1 then 1 else if n = 4 then 3 else if n = 7 then 5 else 0
def pOut (v n : Int) : Int := if fCode n = 0 ∧ 0 ≤ v ∧ v ≤ 20 then v % n else 0
def pCode (v n : Int) : Int := if fCode n = 0 ∧ 0 ≤ v ∧ v ≤ 20 then 0 else 4
def inB (x a b : Int) : Bool := decide (a ≤ x ∧ x ≤ b)
theorem ret_bool {a b : Bool} (h : a = b) : Ending.returned (.bool a) = .returned (.bool b) := by rw [h]
theorem within_any (x a b : Int) (w : World) :
    Calls Tryd.prog 35 #[.int .i64 x, .int .i64 a, .int .i64 b] w fun e w' => e = .returned (.bool (inB x a b)) ∧ w = w' := by
  by_cases h1 : a ≤ x
  · by_cases h2 : x ≤ b
    all_goals
      go_enter Tryd.func35, Tryd.ntmps35
      go_wp2
      go_ret
      exact ⟨ret_bool (by unfold inB; rw [Bool.eq_iff_iff]; simp; try omega), rfl⟩
  · go_enter Tryd.func35, Tryd.ntmps35
    go_wp2
    go_ret
    exact ⟨ret_bool (by unfold inB; rw [Bool.eq_iff_iff]; simp; try omega), rfl⟩
theorem l01In_any (x a b : Int) (w : World) :
    Calls Tryd.prog 25 #[.int .i64 x, .int .i64 a, .int .i64 b] w fun e w' => e = .returned (.bool (inB x a b)) ∧ w = w' := by
  by_cases h1 : a ≤ x
  · by_cases h2 : x ≤ b
    all_goals
      go_enter Tryd.func25, Tryd.ntmps25
      go_wp2
      go_ret
      exact ⟨ret_bool (by unfold inB; rw [Bool.eq_iff_iff]; simp; try omega), rfl⟩
  · go_enter Tryd.func25, Tryd.ntmps25
    go_wp2
    go_ret
    exact ⟨ret_bool (by unfold inB; rw [Bool.eq_iff_iff]; simp; try omega), rfl⟩
theorem q_none {n : Int} (h1 : n ≠ 1) (h2 : n ≠ 4) (h3 : n ≠ 7) : qOut n = 0 := by unfold qOut; rw [if_neg h1, if_neg h2, if_neg h3]
set_option maxRecDepth 100000 in
set_option maxHeartbeats 400000 in
theorem l04Nodes_any (n : Int) (w : World) : Calls Tryd.prog 32 #[.int .i64 n] w fun e w' => e = .returned (.bool (decide (fCode n = 0))) ∧ w = w' := by
  rcases f_cases n with rfl | rfl | rfl | ⟨h1, h2, h3, _, hc⟩
  · go_enter Tryd.func32, Tryd.ntmps32
    go_wp2_with fail
    go_ret
    exact ⟨rfl, rfl⟩
  · go_enter Tryd.func32, Tryd.ntmps32
    go_wp2_with fail
    go_ret
    exact ⟨rfl, rfl⟩
  · go_enter Tryd.func32, Tryd.ntmps32
    go_wp2_with fail
    go_ret
    exact ⟨rfl, rfl⟩
  · have HC : Hid (fCode n = 4) := hc
    clear hc
    go_enter Tryd.func32, Tryd.ntmps32
    go_wp2_with fail
    go_ret
    exact ⟨by rw [HC.out]; simp [h1, h2, h3], rfl⟩
theorem p_none {v n : Int} (h : ¬ (fCode n = 0 ∧ 0 ≤ v ∧ v ≤ 20)) : pOut v n = 0 ∧ pCode v n = 4 := by unfold pOut pCode; rw [if_neg h, if_neg h]; exact ⟨rfl, rfl⟩
theorem p_some {v n : Int} (h : fCode n = 0 ∧ 0 ≤ v ∧ v ≤ 20) : pOut v n = v % n ∧ pCode v n = 0 := by unfold pOut pCode; rw [if_pos h, if_pos h]; exact ⟨rfl, rfl⟩
end Go.Proofs.YtdeologdmdimoaaDoor.Qm

/- Signed messages: their marks, SignMessage, MessageSigned, of the program and of the specification. -/
namespace Go.Proofs.YtdeologdmdimoaaDoor.Si
open Go.RowKit Go.Proofs.YtdeologdmdimoaaDoor.Sl Go.Proofs.YtdeologdmdimoaaDoor.By Go.Proofs.YtdeologdmdimoaaDoor.Rq Go.Proofs.YtdeologdmdimoaaDoor.Ap Go.Proofs.YtdeologdmdimoaaDoor.Sh Go.Proofs.YtdeologdmdimoaaDoor.Ho Go.Proofs.YtdeologdmdimoaaDoor.Mr Go.Proofs.YtdeologdmdimoaaDoor.Ms Go.Proofs.YtdeologdmdimoaaDoor.Mp Go.Proofs.YtdeologdmdimoaaDoor.Rp Go.Proofs.YtdeologdmdimoaaDoor.Pu
open Go.Proofs.YtdeologdmdimoaaDoor.Tx (blk_cell blk_set blk_far blk_new bel_new)

theorem plainBs_range (kd vw sq fr : Int) (dg bd : ByteArray) : ∀ z ∈ plainBs kd vw sq fr dg bd, 0 ≤ z ∧ z ≤ 255 := by
  intro z hz
  exact msgBs_range kd vw sq fr dg bd ⟨#[]⟩ z (by unfold msgBs; exact List.mem_append_left _ hz)
theorem plain_ne (kd vw sq fr : Int) (dg bd : ByteArray) : plainBs kd vw sq fr dg bd ≠ [] := fun e => by have := plainBs_length kd vw sq fr dg bd; rw [e] at this; simp at this; omega
/-- The mark of a message of the node i. -/
def mmk (kd vw sq : Int) (i : Nat) (dg bd : ByteArray) : ByteArray := mac i (plainBs kd vw sq i dg bd)
theorem mmk_size (kd vw sq : Int) (i : Nat) (dg bd : ByteArray) (hd : dg.size ≤ 32) (hb : bd.size ≤ 20000) : (mmk kd vw sq i dg bd).size = 8 := by
  unfold mmk mac
  have h := hash_size (bys (nsec i) ++ plainBs kd vw sq i dg bd) (by rw [List.length_append, nsec_len, plainBs_length]; omega)
  rw [ByteArray.size_extract, h]; rfl
/-- Cells of a boxed message in every later world. -/
def BoxM (W : World) (b : Nat) (kd vw sq fr : Int) (dg bd mc : ByteArray) : Prop := W.cell? ⟨b, 0, none⟩ = some (.int .i64 kd) ∧ W.cell? ⟨b, 1, none⟩ = some (.int .i64 vw) ∧ W.cell? ⟨b, 2, none⟩ = some (.int .i64 sq) ∧ W.cell? ⟨b, 3, none⟩ = some (.int .i64 fr) ∧ W.cell? ⟨b, 4, none⟩ = some (.string dg) ∧ W.cell? ⟨b, 5, none⟩ = some (.string bd) ∧ W.cell? ⟨b, 6, none⟩ = some (.string mc)
theorem BoxM.of {W : World} {b : Nat} {kd vw sq fr : Int} {dg bd mc : ByteArray} {t : TypeId} (h : W.heap[b]? = some (.cells #[.int .i64 kd, .int .i64 vw, .int .i64 sq, .int .i64 fr, .string dg, .string bd, .string mc] t (0, 0))) : BoxM W b kd vw sq fr dg bd mc :=
  ⟨(blk_cell h 0 rfl).1, (blk_cell h 1 rfl).1, (blk_cell h 2 rfl).1, (blk_cell h 3 rfl).1, (blk_cell h 4 rfl).1, (blk_cell h 5 rfl).1, (blk_cell h 6 rfl).1⟩
set_option maxRecDepth 100000 in
set_option maxHeartbeats 800000 in
theorem messageMark_any (kd vw sq : Int) (i : Nat) (dg bd mc : ByteArray) (w : World) (hi : i < 7) (hq : msgB kd vw sq i dg bd mc = true) (hK : KTab w) (hp : 0 < w.heap.size) :
    Calls Tryd.prog 24 #[msgV kd vw sq i dg bd mc] w fun e w' => e = .returned (.string (mmk kd vw sq i dg bd)) ∧ Below w.heap.size w w' := by
  have GK : Hid (KTab w) := hK
  have C := implMessageBytes_any kd vw sq i dg bd mc
  have HC : Hid (msgCode kd vw sq i dg bd mc = 0) := by show _ = _; unfold msgCode; rw [hq]; rfl
  have HO : Hid (msgOut kd vw sq i dg bd mc = msgBs kd vw sq i dg bd mc) := by show _ = _; unfold msgOut; rw [hq]; rfl
  obtain ⟨hd, hb, hm⟩ := msg_small hq
  have HL : Hid ((msgBs kd vw sq i dg bd mc).length = 7 + dg.size + bd.size + 8) := by show _ = _; rw [msgBs_length, hm]
  have HP : Hid ((plainBs kd vw sq i dg bd).length = 7 + dg.size + bd.size) := plainBs_length _ _ _ _ _ _
  have HT : Hid (∀ j, j < (plainBs kd vw sq i dg bd).length → nth (msgBs kd vw sq i dg bd mc) j = nth (plainBs kd vw sq i dg bd) j) := fun j hj => by
    unfold nth msgBs
    rw [List.getD_eq_getElem?_getD, List.getD_eq_getElem?_getD, List.getElem?_append_left hj]
  have HM : Hid (mac i (bys (strOfNums (plainBs kd vw sq i dg bd))) = mmk kd vw sq i dg bd) := by show _ = _; rw [bys_str _ (plainBs_range kd vw sq i dg bd)]; rfl
  have HZ : Hid ((strOfNums (plainBs kd vw sq i dg bd)).size ≤ 60000) := by show _ ≤ _; rw [strOfNums_size, HP.out]; omega
  have HR : Hid (∀ z ∈ msgBs kd vw sq i dg bd mc, 0 ≤ z ∧ z ≤ 255) := msgBs_range kd vw sq i dg bd mc
  clear hK hm hq
  unfold msgV at C ⊢
  go_enter Tryd.func24, Tryd.ntmps24
  go_wp2_with fail
  refine (C _).mono ?_
  rintro e w1 ⟨v1, rfl, o1, b1⟩
  rw [HO.out] at o1
  have r1 := own_rowB o1 HR.out
  have g1 := box_first b1
  obtain ⟨q0, q1, q2, q3, q4, q5, q6⟩ := msg_box g1
  have B1 : Hid (Below w.heap.size w w1) := box_old g1
  clear b1 o1 g1 C
  obtain ⟨a, cap, rfl, h, _⟩ := r1
  rcases h with h | ⟨b, off, rfl, hc, hbl, hcell⟩
  · have := HL.out; rw [h] at this; simp at this
  rw [HL.out] at hc ⊢
  go_upto_region 2 with fail
  obtain ⟨X, hX, W, QI0, QO0⟩ := Qc.klass w1
  have QI : Hid (∀ w', Below w1.heap.size w1 w' → ∃ x, w' = W x) := QI0
  have QO : Hid (∀ x, Below w1.heap.size w1 (W x)) := QO0
  clear QI0 QO0
  have hcv : ∀ q, (convert 22 9 (.slice (some ⟨b, off, none⟩) (7 + dg.size + bd.size) cap)).run Tryd.prog (W q) = .ok (.string (strOfNums (plainBs kd vw sq i dg bd))) (W q) := fun q => run_convert_bytes_arg (P := Tryd.prog) (W q) 22 5 Tryd.underlying22 Tryd.underlying5 b off (7 + dg.size + bd.size) cap (plainBs kd vw sq i dg bd) HP.out (fun j hj => by
    rw [(QO.out q).cell (p := ⟨b, off + j, none⟩) hbl, hcell j (by have := HL.out; omega), HT.out j (by have := HP.out; omega)]; rfl) 9 Tryd.underlying9
  have y3 := Qc.cell_all QO.out q3
  have HMK : Hid (∀ z, z = strOfNums (plainBs kd vw sq i dg bd) → ∀ q, Calls Tryd.prog 49 #[.int .i64 i, .string z] (W q) fun e w' => e = .returned (.string (mmk kd vw sq i dg bd)) ∧ Below (W q).heap.size (W q) w') := fun z hz q => by
    subst hz
    have hb2 := B1.out.trans ((QO.out q).mono B1.out.size)
    have := markOf_any i _ (W q) (by omega) HZ.out (GK.out.below hb2 hp) (Nat.lt_of_lt_of_le hp hb2.size)
    rwa [HM.out] at this
  obtain ⟨z, HZZ⟩ : ∃ z, Hid (z = strOfNums (plainBs kd vw sq i dg bd)) := ⟨_, rfl⟩
  rw [← HZZ.out] at hcv
  have HMK2 : Hid (∀ q, Calls Tryd.prog 49 #[.int .i64 i, .string z] (W q) fun e w' => e = .returned (.string (mmk kd vw sq i dg bd)) ∧ Below (W q).heap.size (W q) w') := HMK.out z HZZ.out
  obtain ⟨n, hn⟩ : ∃ n, 7 + dg.size + bd.size = n := ⟨_, rfl⟩
  rw [hn] at hc hcv ⊢
  have hn2 : n ≤ 30000 := by omega
  have hn3 : IntKind.i64.wrap (((n + 8 : Nat) : Int) - 8) = (n : Int) := by rw [IntKind.wrap_i64]; omega
  have hn4 : IntKind.i64.wrap ((n : Int) + 8 - 8) = (n : Int) := by rw [IntKind.wrap_i64]; omega
  have hn5 : (n : Int) ≤ (cap : Int) := by omega
  have hn6 : n ≤ cap := by omega
  obtain ⟨mk, HE⟩ : ∃ mk, Hid (mk = mmk kd vw sq i dg bd) := ⟨_, rfl⟩
  rw [← HE.out] at HMK2
  clear hn q0 q1 q2 q3 q4 q5 q6 hcell HL HT HM HZ HP HMK HZZ GK HO HC HR hd hb hi hp hc hbl
  refine Qc.region_class (W := W) (by kernel_rfl) (by kernel_rfl) (QI.out _ Qc.from_drew) ?_
  repeat (go_big_quiet_step (first | (go_at_call 49; refine (HMK2.out _).mono ?_; rintro e w2 ⟨rfl, b2⟩; exact ⟨rfl, Qc.back QI.out QO.out b2⟩)))
  refine wpQuiet_nil ?_
  rintro _ ⟨xq, rfl⟩
  have G2 : Hid (Below w.heap.size w (W xq)) := B1.out.trans ((QO.out xq).mono B1.out.size)
  clear hcv y3
  generalize W xq = wq at G2 ⊢
  go_wp2_with fail
  go_ret
  exact ⟨Tx.ret_str HE.out, G2.out⟩
end Go.Proofs.YtdeologdmdimoaaDoor.Si

/- SignMessage, of the program and of the specification. -/
namespace Go.Proofs.YtdeologdmdimoaaDoor.Si
open Go.RowKit Go.Proofs.YtdeologdmdimoaaDoor.Sl Go.Proofs.YtdeologdmdimoaaDoor.By Go.Proofs.YtdeologdmdimoaaDoor.Rq Go.Proofs.YtdeologdmdimoaaDoor.Ap Go.Proofs.YtdeologdmdimoaaDoor.Sh Go.Proofs.YtdeologdmdimoaaDoor.Ho Go.Proofs.YtdeologdmdimoaaDoor.Mr Go.Proofs.YtdeologdmdimoaaDoor.Ms Go.Proofs.YtdeologdmdimoaaDoor.Mp Go.Proofs.YtdeologdmdimoaaDoor.Rp Go.Proofs.YtdeologdmdimoaaDoor.Pu
open Go.Proofs.YtdeologdmdimoaaDoor.Tx (blk_cell blk_set blk_far blk_new bel_new)

theorem two {w w1 : World} {o0 o1 : Obj} (b : Below ((w.alloc o0).alloc o1).heap.size ((w.alloc o0).alloc o1) w1) : w1.heap[w.heap.size]? = some o0 ∧ w1.heap[w.heap.size + 1]? = some o1 ∧ Below w.heap.size w w1 := by
  have e1 : (w.alloc o0).heap.size = w.heap.size + 1 := by simp
  have e2 : ((w.alloc o0).alloc o1).heap.size = w.heap.size + 1 + 1 := by simp
  have b1 : Below w.heap.size w ((w.alloc o0).alloc o1) := ((Below.refl _ _).alloc (Nat.le_refl _) _).alloc (by rw [e1]; omega) _
  rw [e2] at b
  refine ⟨?_, ?_, b1.trans (b.mono (by omega))⟩
  · rw [b.block _ (by omega), Below.heap_alloc _ _ _ (by omega)]; exact heap_alloc_new w _
  · rw [b.block _ (by omega), ← e1]; exact heap_alloc_new _ _
def b8 : ByteArray := ⟨#[46, 46, 46, 46, 46, 46, 46, 46]⟩
theorem msgB_mac (kd vw sq fr : Int) (dg bd : ByteArray) {mc mc' : ByteArray} (h : mc.size = mc'.size) : msgB kd vw sq fr dg bd mc = msgB kd vw sq fr dg bd mc' := by
  unfold msgB; rw [h]
/-- What SignMessage answers. -/
def sOK (id kd vw sq : Int) (dg bd : ByteArray) : Bool := msgB kd vw sq id dg bd b8
def sCode (id kd vw sq : Int) (dg bd : ByteArray) : Int := if inB id 0 6 then (if sOK id kd vw sq dg bd then 0 else 1) else 4
def sV (id kd vw sq : Int) (dg bd : ByteArray) : Value := if inB id 0 6 && sOK id kd vw sq dg bd then msgV kd vw sq id dg bd (mmk kd vw sq id.toNat dg bd) else msgV 0 0 0 0 ⟨#[]⟩ ⟨#[]⟩ ⟨#[]⟩
theorem s_cases (id kd vw sq : Int) (dg bd : ByteArray) : (inB id 0 6 = false ∧ sCode id kd vw sq dg bd = 4 ∧ sV id kd vw sq dg bd = msgV 0 0 0 0 ⟨#[]⟩ ⟨#[]⟩ ⟨#[]⟩) ∨ (inB id 0 6 = true ∧ msgB kd vw sq id dg bd b8 = false ∧ sCode id kd vw sq dg bd = 1 ∧ sV id kd vw sq dg bd = msgV 0 0 0 0 ⟨#[]⟩ ⟨#[]⟩ ⟨#[]⟩) ∨
    (∃ i : Nat, id = i ∧ i < 7 ∧ inB id 0 6 = true ∧ msgB kd vw sq i dg bd b8 = true ∧ sCode id kd vw sq dg bd = 0 ∧ sV id kd vw sq dg bd = msgV kd vw sq i dg bd (mmk kd vw sq i dg bd)) := by
  unfold sCode sV sOK
  cases h1 : inB id 0 6 with
  | false => exact .inl ⟨rfl, rfl, rfl⟩
  | true =>
    cases h2 : msgB kd vw sq id dg bd b8 with
    | false => exact .inr (.inl ⟨rfl, rfl, rfl, rfl⟩)
    | true =>
      unfold inB at h1
      simp only [decide_eq_true_eq] at h1
      obtain ⟨i, rfl⟩ := Int.eq_ofNat_of_zero_le h1.1
      exact .inr (.inr ⟨i, rfl, by omega, rfl, h2, rfl, rfl⟩)
theorem node_any (n : Int) (w : World) : Calls Tryd.prog 22 #[.int .i64 n] w fun e w' => e = .returned (.bool (inB n 0 6)) ∧ w = w' := (nodeOK_any n w).mono fun _ _ h => ⟨h.1, h.2.symm⟩
theorem in_any (x a b : Int) (w : World) : Calls Tryd.prog 25 #[.int .i64 x, .int .i64 a, .int .i64 b] w fun e w' => e = .returned (.bool (inB x a b)) ∧ w = w' := (Rq.l01In_any x a b w).mono fun _ _ h => ⟨h.1, h.2.symm⟩
theorem ret_mc {a b : Value} {c d : Int} (h : a = b ∧ c = d) : Ending.returned (.tuple #[a, .int .i64 c]) = .returned (.tuple #[b, .int .i64 d]) := by rw [h.1, h.2]
set_option maxRecDepth 100000 in
set_option maxHeartbeats 800000 in
theorem implSignMessage_any (id kd vw sq fr : Int) (dg bd mc : ByteArray) (w : World) (hK : KTab w) (hp : 0 < w.heap.size) :
    Calls Tryd.prog 7 #[.int .i64 id, msgV kd vw sq fr dg bd mc] w fun e w' => e = .returned (.tuple #[sV id kd vw sq dg bd, .int .i64 (sCode id kd vw sq dg bd)]) ∧ Below w.heap.size w w' := by
  have GK : Hid (KTab w) := hK
  clear hK
  have HB0 : Hid (∀ o0 o1, Below w.heap.size w ((w.alloc o0).alloc o1)) := fun o0 o1 => ((Below.refl _ _).alloc (Nat.le_refl _) _).alloc (by simp) _
  rcases s_cases id kd vw sq dg bd with ⟨h1, e1, e2⟩ | ⟨h1, h2, e1, e2⟩ | ⟨i, rfl, hi, h1, h2, e1, e2⟩
  · have HE : Hid (sV id kd vw sq dg bd = msgV 0 0 0 0 ⟨#[]⟩ ⟨#[]⟩ ⟨#[]⟩ ∧ sCode id kd vw sq dg bd = 4) := ⟨e2, e1⟩
    clear e1 e2
    unfold msgV at HE ⊢
    go_enter Tryd.func7, Tryd.ntmps7
    go_wp2_with (go_at_call 22; refine (node_any _ _).mono ?_; rintro e w1 ⟨rfl, rfl⟩; rw [h1])
    refine bodyPost_ret (v := .tuple #[.agg #[.int .i64 0, .int .i64 0, .int .i64 0, .int .i64 0, .string ⟨#[]⟩, .string ⟨#[]⟩, .string ⟨#[]⟩], .int .i64 4]) (by simp [results, Tryd.results7, go_sem]) rfl ⟨ret_mc ⟨HE.out.1.symm, HE.out.2.symm⟩, HB0.out _ _⟩
  · have HE : Hid (sV id kd vw sq dg bd = msgV 0 0 0 0 ⟨#[]⟩ ⟨#[]⟩ ⟨#[]⟩ ∧ sCode id kd vw sq dg bd = 1) := ⟨e2, e1⟩
    clear e1 e2
    unfold msgV at HE ⊢
    go_enter Tryd.func7, Tryd.ntmps7
    go_wp2_with (first | (go_at_call 22; refine (node_any _ _).mono ?_; rintro e w1 ⟨rfl, rfl⟩; rw [h1]) | fail)
    refine (implMessageOK_any kd vw sq id dg bd b8 _).mono ?_
    rintro e w1 ⟨rfl, b1⟩
    rw [h2]
    obtain ⟨k0, k1, kB⟩ := two b1
    have K1 : Hid (w1.heap[w.heap.size + 1]? = some (.cells #[.int .i64 0, .int .i64 0, .int .i64 0, .int .i64 0, .string ⟨#[]⟩, .string ⟨#[]⟩, .string ⟨#[]⟩] 24 (0, 0))) := k1
    have KB : Hid (Below w.heap.size w w1) := kB
    clear b1 k0 k1 kB
    obtain ⟨m0, n0⟩ := blk_cell K1.out 0 (x := .int .i64 0) rfl
    obtain ⟨m1, n1⟩ := blk_cell K1.out 1 (x := .int .i64 0) rfl
    obtain ⟨m2, n2⟩ := blk_cell K1.out 2 (x := .int .i64 0) rfl
    obtain ⟨m3, n3⟩ := blk_cell K1.out 3 (x := .int .i64 0) rfl
    obtain ⟨m4, n4⟩ := blk_cell K1.out 4 (x := .string ⟨#[]⟩) rfl
    obtain ⟨m5, n5⟩ := blk_cell K1.out 5 (x := .string ⟨#[]⟩) rfl
    obtain ⟨m6, n6⟩ := blk_cell K1.out 6 (x := .string ⟨#[]⟩) rfl
    have AF : (((((((w1.setCell ⟨w.heap.size + 1, 0, none⟩ (.int .i64 0)).setCell ⟨w.heap.size + 1, 1, none⟩ (.int .i64 0)).setCell ⟨w.heap.size + 1, 2, none⟩ (.int .i64 0)).setCell ⟨w.heap.size + 1, 3, none⟩ (.int .i64 0)).setCell ⟨w.heap.size + 1, 4, none⟩ (.string ⟨#[]⟩)).setCell ⟨w.heap.size + 1, 5, none⟩ (.string ⟨#[]⟩)).setCell ⟨w.heap.size + 1, 6, none⟩ (.string ⟨#[]⟩)).heap[w.heap.size + 1]? = some (.cells #[.int .i64 0, .int .i64 0, .int .i64 0, .int .i64 0, .string ⟨#[]⟩, .string ⟨#[]⟩, .string ⟨#[]⟩] 24 (0, 0)) := (blk_set (blk_set (blk_set (blk_set (blk_set (blk_set (blk_set K1.out 0 (.int .i64 0)) 1 (.int .i64 0)) 2 (.int .i64 0)) 3 (.int .i64 0)) 4 (.string ⟨#[]⟩)) 5 (.string ⟨#[]⟩)) 6 (.string ⟨#[]⟩))
    have GF : Hid (Below w.heap.size w (((((((w1.setCell ⟨w.heap.size + 1, 0, none⟩ (.int .i64 0)).setCell ⟨w.heap.size + 1, 1, none⟩ (.int .i64 0)).setCell ⟨w.heap.size + 1, 2, none⟩ (.int .i64 0)).setCell ⟨w.heap.size + 1, 3, none⟩ (.int .i64 0)).setCell ⟨w.heap.size + 1, 4, none⟩ (.string ⟨#[]⟩)).setCell ⟨w.heap.size + 1, 5, none⟩ (.string ⟨#[]⟩)).setCell ⟨w.heap.size + 1, 6, none⟩ (.string ⟨#[]⟩))) := (Below.setCell (Below.setCell (Below.setCell (Below.setCell (Below.setCell (Below.setCell (Below.setCell KB.out (p := ⟨w.heap.size + 1, 0, none⟩) (by show _ ≤ w.heap.size + 1; omega) (.int .i64 0)) (p := ⟨w.heap.size + 1, 1, none⟩) (by show _ ≤ w.heap.size + 1; omega) (.int .i64 0)) (p := ⟨w.heap.size + 1, 2, none⟩) (by show _ ≤ w.heap.size + 1; omega) (.int .i64 0)) (p := ⟨w.heap.size + 1, 3, none⟩) (by show _ ≤ w.heap.size + 1; omega) (.int .i64 0)) (p := ⟨w.heap.size + 1, 4, none⟩) (by show _ ≤ w.heap.size + 1; omega) (.string ⟨#[]⟩)) (p := ⟨w.heap.size + 1, 5, none⟩) (by show _ ≤ w.heap.size + 1; omega) (.string ⟨#[]⟩)) (p := ⟨w.heap.size + 1, 6, none⟩) (by show _ ≤ w.heap.size + 1; omega) (.string ⟨#[]⟩))
    go_wp2_with fail
    generalize (((((((w1.setCell ⟨w.heap.size + 1, 0, none⟩ (.int .i64 0)).setCell ⟨w.heap.size + 1, 1, none⟩ (.int .i64 0)).setCell ⟨w.heap.size + 1, 2, none⟩ (.int .i64 0)).setCell ⟨w.heap.size + 1, 3, none⟩ (.int .i64 0)).setCell ⟨w.heap.size + 1, 4, none⟩ (.string ⟨#[]⟩)).setCell ⟨w.heap.size + 1, 5, none⟩ (.string ⟨#[]⟩)).setCell ⟨w.heap.size + 1, 6, none⟩ (.string ⟨#[]⟩)) = wf at AF GF ⊢
    have d0 := (blk_cell AF 0 (x := .int .i64 0) rfl).1
    have d1 := (blk_cell AF 1 (x := .int .i64 0) rfl).1
    have d2 := (blk_cell AF 2 (x := .int .i64 0) rfl).1
    have d3 := (blk_cell AF 3 (x := .int .i64 0) rfl).1
    have d4 := (blk_cell AF 4 (x := .string ⟨#[]⟩) rfl).1
    have d5 := (blk_cell AF 5 (x := .string ⟨#[]⟩) rfl).1
    have d6 := (blk_cell AF 6 (x := .string ⟨#[]⟩) rfl).1
    exact bodyPost_ret (v := .tuple #[.agg #[.int .i64 0, .int .i64 0, .int .i64 0, .int .i64 0, .string ⟨#[]⟩, .string ⟨#[]⟩, .string ⟨#[]⟩], .int .i64 1]) (by simp [results, Tryd.results7, go_sem, d0, d1, d2, d3, d4, d5, d6]) rfl ⟨ret_mc ⟨HE.out.1.symm, HE.out.2.symm⟩, GF.out⟩
  · have HE : Hid (sV i kd vw sq dg bd = msgV kd vw sq i dg bd (mmk kd vw sq i dg bd) ∧ sCode i kd vw sq dg bd = 0) := ⟨e2, e1⟩
    have HB8 : Hid (msgB kd vw sq i dg bd b8 = true) := h2
    clear e1 e2
    unfold msgV at HE ⊢
    go_enter Tryd.func7, Tryd.ntmps7
    go_wp2_with (first | (go_at_call 22; refine (node_any _ _).mono ?_; rintro e w1 ⟨rfl, rfl⟩; rw [h1]) | fail)
    refine (implMessageOK_any kd vw sq i dg bd b8 _).mono ?_
    rintro e w1 ⟨rfl, b1⟩
    rw [h2]
    obtain ⟨k0, k1, kB⟩ := two b1
    have K0 : Hid (w1.heap[w.heap.size]? = some (.cells #[.int .i64 kd, .int .i64 vw, .int .i64 sq, .int .i64 i, .string dg, .string bd, .string ⟨#[46, 46, 46, 46, 46, 46, 46, 46]⟩] 24 (0, 0))) := k0
    have K1 : Hid (w1.heap[w.heap.size + 1]? = some (.cells #[.int .i64 0, .int .i64 0, .int .i64 0, .int .i64 0, .string ⟨#[]⟩, .string ⟨#[]⟩, .string ⟨#[]⟩] 24 (0, 0))) := k1
    have KB : Hid (Below w.heap.size w w1) := kB
    clear b1 k0 k1 kB h2
    have HMM := messageMark_any kd vw sq i dg bd b8 w1 hi HB8.out (GK.out.below KB.out hp) (Nat.lt_of_lt_of_le hp KB.out.size)
    unfold msgV b8 at HMM
    have HM : Hid (Calls Tryd.prog 24 #[.agg #[.int .i64 kd, .int .i64 vw, .int .i64 sq, .int .i64 i, .string dg, .string bd, .string ⟨#[46, 46, 46, 46, 46, 46, 46, 46]⟩]] w1 fun e w' => e = .returned (.string (mmk kd vw sq i dg bd)) ∧ Below w1.heap.size w1 w') := HMM
    clear HMM
    have q0 := (blk_cell K0.out 0 (x := .int .i64 kd) rfl).1
    have q1 := (blk_cell K0.out 1 (x := .int .i64 vw) rfl).1
    have q2 := (blk_cell K0.out 2 (x := .int .i64 sq) rfl).1
    have q3 := (blk_cell K0.out 3 (x := .int .i64 i) rfl).1
    have q4 := (blk_cell K0.out 4 (x := .string dg) rfl).1
    have q5 := (blk_cell K0.out 5 (x := .string bd) rfl).1
    have q6 := (blk_cell K0.out 6 (x := .string ⟨#[46, 46, 46, 46, 46, 46, 46, 46]⟩) rfl).1
    go_wp2_with fail
    refine HM.out.mono ?_
    rintro e w2 ⟨rfl, b2⟩
    have s1 := (Array.getElem?_eq_some_iff.1 K1.out).1
    have K02 : Hid (w2.heap[w.heap.size]? = some (.cells #[.int .i64 kd, .int .i64 vw, .int .i64 sq, .int .i64 i, .string dg, .string bd, .string ⟨#[46, 46, 46, 46, 46, 46, 46, 46]⟩] 24 (0, 0))) := (b2.block _ (by omega)).trans K0.out
    have K12 : Hid (w2.heap[w.heap.size + 1]? = some (.cells #[.int .i64 0, .int .i64 0, .int .i64 0, .int .i64 0, .string ⟨#[]⟩, .string ⟨#[]⟩, .string ⟨#[]⟩] 24 (0, 0))) := (b2.block _ s1).trans K1.out
    have KB2 : Hid (Below w.heap.size w w2) := KB.out.trans (b2.mono KB.out.size)
    clear b2 K0 K1 KB HM s1 q0 q1 q2 q3 q4 q5 q6
    generalize mmk kd vw sq i dg bd = mk at HE
    obtain ⟨s6, t6⟩ := blk_cell K02.out 6 (x := .string ⟨#[46, 46, 46, 46, 46, 46, 46, 46]⟩) rfl
    have K03 : Hid ((w2.setCell ⟨w.heap.size, 6, none⟩ (.string mk)).heap[w.heap.size]? = some (.cells #[.int .i64 kd, .int .i64 vw, .int .i64 sq, .int .i64 i, .string dg, .string bd, .string mk] 24 (0, 0))) := blk_set K02.out 6 (.string mk)
    have K13 : Hid ((w2.setCell ⟨w.heap.size, 6, none⟩ (.string mk)).heap[w.heap.size + 1]? = some (.cells #[.int .i64 0, .int .i64 0, .int .i64 0, .int .i64 0, .string ⟨#[]⟩, .string ⟨#[]⟩, .string ⟨#[]⟩] 24 (0, 0))) := (blk_far (by omega) 6 (.string mk)).trans K12.out
    have KB3 : Hid (Below w.heap.size w (w2.setCell ⟨w.heap.size, 6, none⟩ (.string mk))) := Below.setCell KB2.out (p := ⟨w.heap.size, 6, none⟩) (Nat.le_refl _) (.string mk)
    clear K02 K12 KB2
    go_upto_region 7 with fail
    generalize w2.setCell ⟨w.heap.size, 6, none⟩ (.string mk) = w9 at K03 K13 KB3 ⊢
    clear s6 t6
    have p0 := (blk_cell K03.out 0 (x := .int .i64 kd) rfl).1
    have p1 := (blk_cell K03.out 1 (x := .int .i64 vw) rfl).1
    have p2 := (blk_cell K03.out 2 (x := .int .i64 sq) rfl).1
    have p3 := (blk_cell K03.out 3 (x := .int .i64 i) rfl).1
    have p4 := (blk_cell K03.out 4 (x := .string dg) rfl).1
    have p5 := (blk_cell K03.out 5 (x := .string bd) rfl).1
    have p6 := (blk_cell K03.out 6 (x := .string mk) rfl).1
    obtain ⟨m0, n0⟩ := blk_cell K13.out 0 (x := .int .i64 0) rfl
    obtain ⟨m1, n1⟩ := blk_cell K13.out 1 (x := .int .i64 0) rfl
    obtain ⟨m2, n2⟩ := blk_cell K13.out 2 (x := .int .i64 0) rfl
    obtain ⟨m3, n3⟩ := blk_cell K13.out 3 (x := .int .i64 0) rfl
    obtain ⟨m4, n4⟩ := blk_cell K13.out 4 (x := .string ⟨#[]⟩) rfl
    obtain ⟨m5, n5⟩ := blk_cell K13.out 5 (x := .string ⟨#[]⟩) rfl
    obtain ⟨m6, n6⟩ := blk_cell K13.out 6 (x := .string ⟨#[]⟩) rfl
    have AF : (((((((w9.setCell ⟨w.heap.size + 1, 0, none⟩ (.int .i64 kd)).setCell ⟨w.heap.size + 1, 1, none⟩ (.int .i64 vw)).setCell ⟨w.heap.size + 1, 2, none⟩ (.int .i64 sq)).setCell ⟨w.heap.size + 1, 3, none⟩ (.int .i64 i)).setCell ⟨w.heap.size + 1, 4, none⟩ (.string dg)).setCell ⟨w.heap.size + 1, 5, none⟩ (.string bd)).setCell ⟨w.heap.size + 1, 6, none⟩ (.string mk)).heap[w.heap.size + 1]? = some (.cells #[.int .i64 kd, .int .i64 vw, .int .i64 sq, .int .i64 i, .string dg, .string bd, .string mk] 24 (0, 0)) := (blk_set (blk_set (blk_set (blk_set (blk_set (blk_set (blk_set K13.out 0 (.int .i64 kd)) 1 (.int .i64 vw)) 2 (.int .i64 sq)) 3 (.int .i64 i)) 4 (.string dg)) 5 (.string bd)) 6 (.string mk))
    have GF : Hid (Below w.heap.size w (((((((w9.setCell ⟨w.heap.size + 1, 0, none⟩ (.int .i64 kd)).setCell ⟨w.heap.size + 1, 1, none⟩ (.int .i64 vw)).setCell ⟨w.heap.size + 1, 2, none⟩ (.int .i64 sq)).setCell ⟨w.heap.size + 1, 3, none⟩ (.int .i64 i)).setCell ⟨w.heap.size + 1, 4, none⟩ (.string dg)).setCell ⟨w.heap.size + 1, 5, none⟩ (.string bd)).setCell ⟨w.heap.size + 1, 6, none⟩ (.string mk))) := (Below.setCell (Below.setCell (Below.setCell (Below.setCell (Below.setCell (Below.setCell (Below.setCell KB3.out (p := ⟨w.heap.size + 1, 0, none⟩) (by show _ ≤ w.heap.size + 1; omega) (.int .i64 kd)) (p := ⟨w.heap.size + 1, 1, none⟩) (by show _ ≤ w.heap.size + 1; omega) (.int .i64 vw)) (p := ⟨w.heap.size + 1, 2, none⟩) (by show _ ≤ w.heap.size + 1; omega) (.int .i64 sq)) (p := ⟨w.heap.size + 1, 3, none⟩) (by show _ ≤ w.heap.size + 1; omega) (.int .i64 i)) (p := ⟨w.heap.size + 1, 4, none⟩) (by show _ ≤ w.heap.size + 1; omega) (.string dg)) (p := ⟨w.heap.size + 1, 5, none⟩) (by show _ ≤ w.heap.size + 1; omega) (.string bd)) (p := ⟨w.heap.size + 1, 6, none⟩) (by show _ ≤ w.heap.size + 1; omega) (.string mk))
    go_wp2_with fail
    generalize (((((((w9.setCell ⟨w.heap.size + 1, 0, none⟩ (.int .i64 kd)).setCell ⟨w.heap.size + 1, 1, none⟩ (.int .i64 vw)).setCell ⟨w.heap.size + 1, 2, none⟩ (.int .i64 sq)).setCell ⟨w.heap.size + 1, 3, none⟩ (.int .i64 i)).setCell ⟨w.heap.size + 1, 4, none⟩ (.string dg)).setCell ⟨w.heap.size + 1, 5, none⟩ (.string bd)).setCell ⟨w.heap.size + 1, 6, none⟩ (.string mk)) = wf at AF GF ⊢
    have d0 := (blk_cell AF 0 (x := .int .i64 kd) rfl).1
    have d1 := (blk_cell AF 1 (x := .int .i64 vw) rfl).1
    have d2 := (blk_cell AF 2 (x := .int .i64 sq) rfl).1
    have d3 := (blk_cell AF 3 (x := .int .i64 i) rfl).1
    have d4 := (blk_cell AF 4 (x := .string dg) rfl).1
    have d5 := (blk_cell AF 5 (x := .string bd) rfl).1
    have d6 := (blk_cell AF 6 (x := .string mk) rfl).1
    exact bodyPost_ret (v := .tuple #[.agg #[.int .i64 kd, .int .i64 vw, .int .i64 sq, .int .i64 i, .string dg, .string bd, .string mk], .int .i64 0]) (by simp [results, Tryd.results7, go_sem, d0, d1, d2, d3, d4, d5, d6]) rfl ⟨ret_mc ⟨HE.out.1.symm, HE.out.2.symm⟩, GF.out⟩
end Go.Proofs.YtdeologdmdimoaaDoor.Si
