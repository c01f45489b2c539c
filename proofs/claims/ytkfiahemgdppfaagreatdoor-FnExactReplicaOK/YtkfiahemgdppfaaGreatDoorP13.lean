/- Texts put together: Qm, Sm6, Si2. -/
import Derived.Test.YtkfiahemgdppfaaGreatDoorP12
import Derived.Test.YtkfiahemgdppfaaGreatDoorP6
import Derived.Test.YtkfiahemgdppfaaGreatDoorP1
import Derived.Deep.RegionHeldLaw
/- QuorumOf and PrimaryOf, of the program and of the specification. -/
namespace Go.Proofs.YtkfiahemgdppfaaGreatDoor.Qm
open Go.RowKit Go.Proofs.YtkfiahemgdppfaaGreatDoor.Tm

/-- What QuorumOf and PrimaryOf answer. -/
def qOut (n : Int) : Int := if n = 1 then 1 else if n = 4 then 3 else if n = 7 then 5 else 0
def pOut (v n : Int) : Int := if fCode n = 0 ∧ 0 ≤ v ∧ v ≤ 20 then v % n else 0
def pCode (v n : Int) : Int := if fCode n = 0 ∧ 0 ≤ v ∧ v ≤ 20 then 0 else 4
def inB (x a b : Int) : Bool := decide (a ≤ x ∧ x ≤ b)
theorem ret_bool {a b : Bool} (h : a = b) : Ending.returned (.bool a) = .returned (.bool b) := by rw [h]
theorem within_any (x a b : Int) (w : World) :
    Calls Tryz.prog 19 #[.int .i64 x, .int .i64 a, .int .i64 b] w fun e w' => e = .returned (.bool (inB x a b)) ∧ w = w' := by
  by_cases h1 : a ≤ x
  · by_cases h2 : x ≤ b
    all_goals
      go_enter Tryz.func19, Tryz.ntmps19
      go_wp2
      go_ret
      exact ⟨ret_bool (by unfold inB; rw [Bool.eq_iff_iff]; simp; try omega), rfl⟩
  · go_enter Tryz.func19, Tryz.ntmps19
    go_wp2
    go_ret
    exact ⟨ret_bool (by unfold inB; rw [Bool.eq_iff_iff]; simp; try omega), rfl⟩
theorem l01In_any (x a b : Int) (w : World) :
    Calls Tryz.prog 23 #[.int .i64 x, .int .i64 a, .int .i64 b] w fun e w' => e = .returned (.bool (inB x a b)) ∧ w = w' := by
  by_cases h1 : a ≤ x
  · by_cases h2 : x ≤ b
    all_goals
      go_enter Tryz.func23, Tryz.ntmps23
      go_wp2
      go_ret
      exact ⟨ret_bool (by unfold inB; rw [Bool.eq_iff_iff]; simp; try omega), rfl⟩
  · go_enter Tryz.func23, Tryz.ntmps23
    go_wp2
    go_ret
    exact ⟨ret_bool (by unfold inB; rw [Bool.eq_iff_iff]; simp; try omega), rfl⟩
theorem q_none {n : Int} (h1 : n ≠ 1) (h2 : n ≠ 4) (h3 : n ≠ 7) : qOut n = 0 := by unfold qOut; rw [if_neg h1, if_neg h2, if_neg h3]
set_option maxRecDepth 100000 in
set_option maxHeartbeats 400000 in
theorem implQuorumOf_any (n : Int) (w : World) : Calls Tryz.prog 18 #[.int .i64 n] w fun e w' => e = .returned (.tuple #[.int .i64 (qOut n), .int .i64 (fCode n)]) ∧ w = w' := by
  rcases f_cases n with rfl | rfl | rfl | ⟨h1, h2, h3, e1, e2⟩
  · have C : Calls Tryz.prog 26 #[.int .i64 1] w fun e w' => e = .returned (.tuple #[.int .i64 0, .int .i64 0]) ∧ w' = w := implFaultsOf_any 1 w
    go_enter Tryz.func18, Tryz.ntmps18
    go_wp2_with fail
    refine C.mono ?_
    rintro e w1 ⟨rfl, rfl⟩
    go_wp2_with fail
    go_ret2
    exact ⟨ret_ii ⟨by decide, by decide⟩, rfl⟩
  · have C : Calls Tryz.prog 26 #[.int .i64 4] w fun e w' => e = .returned (.tuple #[.int .i64 1, .int .i64 0]) ∧ w' = w := implFaultsOf_any 4 w
    go_enter Tryz.func18, Tryz.ntmps18
    go_wp2_with fail
    refine C.mono ?_
    rintro e w1 ⟨rfl, rfl⟩
    go_wp2_with fail
    go_ret2
    exact ⟨ret_ii ⟨by decide, by decide⟩, rfl⟩
  · have C : Calls Tryz.prog 26 #[.int .i64 7] w fun e w' => e = .returned (.tuple #[.int .i64 2, .int .i64 0]) ∧ w' = w := implFaultsOf_any 7 w
    go_enter Tryz.func18, Tryz.ntmps18
    go_wp2_with fail
    refine C.mono ?_
    rintro e w1 ⟨rfl, rfl⟩
    go_wp2_with fail
    go_ret2
    exact ⟨ret_ii ⟨by decide, by decide⟩, rfl⟩
  · have C : Calls Tryz.prog 26 #[.int .i64 n] w fun e w' => e = .returned (.tuple #[.int .i64 0, .int .i64 4]) ∧ w' = w := by have := implFaultsOf_any n w; rwa [e1, e2] at this
    have HE : Hid (qOut n = 0 ∧ fCode n = 4) := ⟨q_none h1 h2 h3, e2⟩
    clear h1 h2 h3 e1 e2
    go_enter Tryz.func18, Tryz.ntmps18
    go_wp2_with fail
    refine C.mono ?_
    rintro e w1 ⟨rfl, rfl⟩
    go_wp2_with fail
    go_ret2
    exact ⟨ret_ii ⟨HE.out.1.symm, HE.out.2.symm⟩, rfl⟩
set_option maxRecDepth 100000 in
set_option maxHeartbeats 400000 in
theorem l04Nodes_any (n : Int) (w : World) : Calls Tryz.prog 22 #[.int .i64 n] w fun e w' => e = .returned (.bool (decide (fCode n = 0))) ∧ w = w' := by
  rcases f_cases n with rfl | rfl | rfl | ⟨h1, h2, h3, _, hc⟩
  · go_enter Tryz.func22, Tryz.ntmps22
    go_wp2_with fail
    go_ret
    exact ⟨rfl, rfl⟩
  · go_enter Tryz.func22, Tryz.ntmps22
    go_wp2_with fail
    go_ret
    exact ⟨rfl, rfl⟩
  · go_enter Tryz.func22, Tryz.ntmps22
    go_wp2_with fail
    go_ret
    exact ⟨rfl, rfl⟩
  · have HC : Hid (fCode n = 4) := hc
    clear hc
    go_enter Tryz.func22, Tryz.ntmps22
    go_wp2_with fail
    go_ret
    exact ⟨by rw [HC.out]; simp [h1, h2, h3], rfl⟩
set_option maxRecDepth 100000 in
set_option maxHeartbeats 400000 in
theorem l06Quorum_any (n : Int) (w : World) (h : fCode n = 0) : Calls Tryz.prog 24 #[.int .i64 n] w fun e w' => e = .returned (.int .i64 (qOut n)) ∧ w = w' := by
  rcases f_cases n with rfl | rfl | rfl | ⟨h1, h2, h3, _, hc⟩
  · go_enter Tryz.func24, Tryz.ntmps24
    go_wp2_with fail
    go_ret
    exact ⟨rfl, rfl⟩
  · go_enter Tryz.func24, Tryz.ntmps24
    go_wp2_with fail
    go_ret
    exact ⟨rfl, rfl⟩
  · go_enter Tryz.func24, Tryz.ntmps24
    go_wp2_with fail
    go_ret
    exact ⟨rfl, rfl⟩
  · rw [hc] at h; cases h
theorem p_none {v n : Int} (h : ¬ (fCode n = 0 ∧ 0 ≤ v ∧ v ≤ 20)) : pOut v n = 0 ∧ pCode v n = 4 := by unfold pOut pCode; rw [if_neg h, if_neg h]; exact ⟨rfl, rfl⟩
theorem p_some {v n : Int} (h : fCode n = 0 ∧ 0 ≤ v ∧ v ≤ 20) : pOut v n = v % n ∧ pCode v n = 0 := by unfold pOut pCode; rw [if_pos h, if_pos h]; exact ⟨rfl, rfl⟩
end Go.Proofs.YtkfiahemgdppfaaGreatDoor.Qm

/- Signed messages: their marks, SignMessage, MessageSigned, of the program and of the specification. -/
namespace Go.Proofs.YtkfiahemgdppfaaGreatDoor.Si
open Go.RowKit Go.Proofs.YtkfiahemgdppfaaGreatDoor.Sl Go.Proofs.YtkfiahemgdppfaaGreatDoor.By Go.Proofs.YtkfiahemgdppfaaGreatDoor.Rq Go.Proofs.YtkfiahemgdppfaaGreatDoor.Ap Go.Proofs.YtkfiahemgdppfaaGreatDoor.Sh Go.Proofs.YtkfiahemgdppfaaGreatDoor.Ho Go.Proofs.YtkfiahemgdppfaaGreatDoor.Mr Go.Proofs.YtkfiahemgdppfaaGreatDoor.Ms Go.Proofs.YtkfiahemgdppfaaGreatDoor.Mp Go.Proofs.YtkfiahemgdppfaaGreatDoor.Rp Go.Proofs.YtkfiahemgdppfaaGreatDoor.Pu
open Go.Proofs.YtkfiahemgdppfaaGreatDoor.Tx (blk_cell blk_set blk_far blk_new bel_new)

theorem plainBs_range (kd vw sq fr : Int) (dg bd : ByteArray) : ∀ z ∈ plainBs kd vw sq fr dg bd, 0 ≤ z ∧ z ≤ 255 := by
  intro z hz
  exact msgBs_range kd vw sq fr dg bd ⟨#[]⟩ z (by unfold msgBs; exact List.mem_append_left _ hz)
theorem plain_ne (kd vw sq fr : Int) (dg bd : ByteArray) : plainBs kd vw sq fr dg bd ≠ [] := fun e => by have := plainBs_length kd vw sq fr dg bd; rw [e] at this; simp at this; omega
/-- The mark of a message of the node i. -/
def mmk (kd vw sq : Int) (i : Nat) (dg bd : ByteArray) : ByteArray := mac i (plainBs kd vw sq i dg bd)
theorem mmk_size (kd vw sq : Int) (i : Nat) (dg bd : ByteArray) (hd : dg.size ≤ 32) (hb : bd.size ≤ 20000) : (mmk kd vw sq i dg bd).size = 8 := by
  unfold mmk mac
  have h := hash_size (bys (nsec i) ++ plainBs kd vw sq i dg bd) (by rw [List.length_append, nsec_len, plainBs_length]; omega)
  rw [ByteArray.size_extract, h]; rfl
/-- Cells of a boxed message in every later world. -/
def BoxM (W : World) (b : Nat) (kd vw sq fr : Int) (dg bd mc : ByteArray) : Prop := W.cell? ⟨b, 0, none⟩ = some (.int .i64 kd) ∧ W.cell? ⟨b, 1, none⟩ = some (.int .i64 vw) ∧ W.cell? ⟨b, 2, none⟩ = some (.int .i64 sq) ∧ W.cell? ⟨b, 3, none⟩ = some (.int .i64 fr) ∧ W.cell? ⟨b, 4, none⟩ = some (.string dg) ∧ W.cell? ⟨b, 5, none⟩ = some (.string bd) ∧ W.cell? ⟨b, 6, none⟩ = some (.string mc)
theorem BoxM.of {W : World} {b : Nat} {kd vw sq fr : Int} {dg bd mc : ByteArray} {t : TypeId} (h : W.heap[b]? = some (.cells #[.int .i64 kd, .int .i64 vw, .int .i64 sq, .int .i64 fr, .string dg, .string bd, .string mc] t (0, 0))) : BoxM W b kd vw sq fr dg bd mc :=
  ⟨(blk_cell h 0 rfl).1, (blk_cell h 1 rfl).1, (blk_cell h 2 rfl).1, (blk_cell h 3 rfl).1, (blk_cell h 4 rfl).1, (blk_cell h 5 rfl).1, (blk_cell h 6 rfl).1⟩
set_option maxRecDepth 100000 in
set_option maxHeartbeats 800000 in
theorem messageMark_any (kd vw sq : Int) (i : Nat) (dg bd mc : ByteArray) (w : World) (hi : i < 7) (hq : msgB kd vw sq i dg bd mc = true) (hK : KTab w) (hp : 0 < w.heap.size) :
    Calls Tryz.prog 96 #[msgV kd vw sq i dg bd mc] w fun e w' => e = .returned (.string (mmk kd vw sq i dg bd)) ∧ Below w.heap.size w w' := by
  have GK : Hid (KTab w) := hK
  have C := implMessageBytes_any kd vw sq i dg bd mc
  have HC : Hid (msgCode kd vw sq i dg bd mc = 0) := by show _ = _; unfold msgCode; rw [hq]; rfl
  have HO : Hid (msgOut kd vw sq i dg bd mc = msgBs kd vw sq i dg bd mc) := by show _ = _; unfold msgOut; rw [hq]; rfl
  obtain ⟨hd, hb, hm⟩ := msg_small hq
  have HL : Hid ((msgBs kd vw sq i dg bd mc).length = 7 + dg.size + bd.size + 8) := by show _ = _; rw [msgBs_length, hm]
  have HP : Hid ((plainBs kd vw sq i dg bd).length = 7 + dg.size + bd.size) := plainBs_length _ _ _ _ _ _
  have HT : Hid (∀ j, j < (plainBs kd vw sq i dg bd).length → nth (msgBs kd vw sq i dg bd mc) j = nth (plainBs kd vw sq i dg bd) j) := fun j hj => by
    unfold nth msgBs
    rw [List.getD_eq_getElem?_getD, List.getD_eq_getElem?_getD, List.getElem?_append_left hj]
  have HM : Hid (mac i (bys (strOfNums (plainBs kd vw sq i dg bd))) = mmk kd vw sq i dg bd) := by show _ = _; rw [bys_str _ (plainBs_range kd vw sq i dg bd)]; rfl
  have HZ : Hid ((strOfNums (plainBs kd vw sq i dg bd)).size ≤ 60000) := by show _ ≤ _; rw [strOfNums_size, HP.out]; omega
  have HR : Hid (∀ z ∈ msgBs kd vw sq i dg bd mc, 0 ≤ z ∧ z ≤ 255) := msgBs_range kd vw sq i dg bd mc
  clear hK hm hq
  unfold msgV at C ⊢
  go_enter Tryz.func96, Tryz.ntmps96
  go_wp2_with fail
  refine (C _).mono ?_
  rintro e w1 ⟨v1, rfl, o1, b1⟩
  rw [HO.out] at o1
  have r1 := own_rowB o1 HR.out
  have g1 := box_first b1
  obtain ⟨q0, q1, q2, q3, q4, q5, q6⟩ := msg_box g1
  have B1 : Hid (Below w.heap.size w w1) := box_old g1
  clear b1 o1 g1 C
  obtain ⟨a, cap, rfl, h, _⟩ := r1
  rcases h with h | ⟨b, off, rfl, hc, hbl, hcell⟩
  · have := HL.out; rw [h] at this; simp at this
  rw [HL.out] at hc ⊢
  go_upto_region 2 with fail
  obtain ⟨X, hX, W, QI0, QO0⟩ := Qc.klass w1
  have QI : Hid (∀ w', Below w1.heap.size w1 w' → ∃ x, w' = W x) := QI0
  have QO : Hid (∀ x, Below w1.heap.size w1 (W x)) := QO0
  clear QI0 QO0
  have hcv : ∀ q, (convert 22 9 (.slice (some ⟨b, off, none⟩) (7 + dg.size + bd.size) cap)).run Tryz.prog (W q) = .ok (.string (strOfNums (plainBs kd vw sq i dg bd))) (W q) := fun q => run_convert_bytes_arg (P := Tryz.prog) (W q) 22 5 Tryz.underlying22 Tryz.underlying5 b off (7 + dg.size + bd.size) cap (plainBs kd vw sq i dg bd) HP.out (fun j hj => by
    rw [(QO.out q).cell (p := ⟨b, off + j, none⟩) hbl, hcell j (by have := HL.out; omega), HT.out j (by have := HP.out; omega)]; rfl) 9 Tryz.underlying9
  have y3 := Qc.cell_all QO.out q3
  have HMK : Hid (∀ z, z = strOfNums (plainBs kd vw sq i dg bd) → ∀ q, Calls Tryz.prog 122 #[.int .i64 i, .string z] (W q) fun e w' => e = .returned (.string (mmk kd vw sq i dg bd)) ∧ Below (W q).heap.size (W q) w') := fun z hz q => by
    subst hz
    have hb2 := B1.out.trans ((QO.out q).mono B1.out.size)
    have := markOf_any i _ (W q) (by omega) HZ.out (GK.out.below hb2 hp) (Nat.lt_of_lt_of_le hp hb2.size)
    rwa [HM.out] at this
  obtain ⟨z, HZZ⟩ : ∃ z, Hid (z = strOfNums (plainBs kd vw sq i dg bd)) := ⟨_, rfl⟩
  rw [← HZZ.out] at hcv
  have HMK2 : Hid (∀ q, Calls Tryz.prog 122 #[.int .i64 i, .string z] (W q) fun e w' => e = .returned (.string (mmk kd vw sq i dg bd)) ∧ Below (W q).heap.size (W q) w') := HMK.out z HZZ.out
  obtain ⟨n, hn⟩ : ∃ n, 7 + dg.size + bd.size = n := ⟨_, rfl⟩
  rw [hn] at hc hcv ⊢
  have hn2 : n ≤ 30000 := by omega
  have hn3 : IntKind.i64.wrap (((n + 8 : Nat) : Int) - 8) = (n : Int) := by rw [IntKind.wrap_i64]; omega
  have hn4 : IntKind.i64.wrap ((n : Int) + 8 - 8) = (n : Int) := by rw [IntKind.wrap_i64]; omega
  have hn5 : (n : Int) ≤ (cap : Int) := by omega
  have hn6 : n ≤ cap := by omega
  obtain ⟨mk, HE⟩ : ∃ mk, Hid (mk = mmk kd vw sq i dg bd) := ⟨_, rfl⟩
  rw [← HE.out] at HMK2
  clear hn q0 q1 q2 q3 q4 q5 q6 hcell HL HT HM HZ HP HMK HZZ GK HO HC HR hd hb hi hp hc hbl
  refine Qc.region_class (W := W) (by kernel_rfl) (by kernel_rfl) (QI.out _ Qc.from_drew) ?_
  repeat (go_big_quiet_step (first | (go_at_call 122; refine (HMK2.out _).mono ?_; rintro e w2 ⟨rfl, b2⟩; exact ⟨rfl, Qc.back QI.out QO.out b2⟩)))
  refine wpQuiet_nil ?_
  rintro _ ⟨xq, rfl⟩
  have G2 : Hid (Below w.heap.size w (W xq)) := B1.out.trans ((QO.out xq).mono B1.out.size)
  clear hcv y3
  generalize W xq = wq at G2 ⊢
  go_wp2_with fail
  go_ret
  exact ⟨Tx.ret_str HE.out, G2.out⟩
end Go.Proofs.YtkfiahemgdppfaaGreatDoor.Si

/- SignMessage, of the program and of the specification. -/
namespace Go.Proofs.YtkfiahemgdppfaaGreatDoor.Si
open Go.RowKit Go.Proofs.YtkfiahemgdppfaaGreatDoor.Sl Go.Proofs.YtkfiahemgdppfaaGreatDoor.By Go.Proofs.YtkfiahemgdppfaaGreatDoor.Rq Go.Proofs.YtkfiahemgdppfaaGreatDoor.Ap Go.Proofs.YtkfiahemgdppfaaGreatDoor.Sh Go.Proofs.YtkfiahemgdppfaaGreatDoor.Ho Go.Proofs.YtkfiahemgdppfaaGreatDoor.Mr Go.Proofs.YtkfiahemgdppfaaGreatDoor.Ms Go.Proofs.YtkfiahemgdppfaaGreatDoor.Mp Go.Proofs.YtkfiahemgdppfaaGreatDoor.Rp Go.Proofs.YtkfiahemgdppfaaGreatDoor.Pu
open Go.Proofs.YtkfiahemgdppfaaGreatDoor.Tx (blk_cell blk_set blk_far blk_new bel_new)

theorem two {w w1 : World} {o0 o1 : Obj} (b : Below ((w.alloc o0).alloc o1).heap.size ((w.alloc o0).alloc o1) w1) : w1.heap[w.heap.size]? = some o0 ∧ w1.heap[w.heap.size + 1]? = some o1 ∧ Below w.heap.size w w1 := by
  have e1 : (w.alloc o0).heap.size = w.heap.size + 1 := by simp
  have e2 : ((w.alloc o0).alloc o1).heap.size = w.heap.size + 1 + 1 := by simp
  have b1 : Below w.heap.size w ((w.alloc o0).alloc o1) := ((Below.refl _ _).alloc (Nat.le_refl _) _).alloc (by rw [e1]; omega) _
  rw [e2] at b
  refine ⟨?_, ?_, b1.trans (b.mono (by omega))⟩
  · rw [b.block _ (by omega), Below.heap_alloc _ _ _ (by omega)]; exact heap_alloc_new w _
  · rw [b.block _ (by omega), ← e1]; exact heap_alloc_new _ _
def b8 : ByteArray := ⟨#[46, 46, 46, 46, 46, 46, 46, 46]⟩
theorem msgB_mac (kd vw sq fr : Int) (dg bd : ByteArray) {mc mc' : ByteArray} (h : mc.size = mc'.size) : msgB kd vw sq fr dg bd mc = msgB kd vw sq fr dg bd mc' := by
  unfold msgB; rw [h]
/-- What SignMessage answers. -/
def sOK (id kd vw sq : Int) (dg bd : ByteArray) : Bool := msgB kd vw sq id dg bd b8
def sCode (id kd vw sq : Int) (dg bd : ByteArray) : Int := if inB id 0 6 then (if sOK id kd vw sq dg bd then 0 else 1) else 4
def sV (id kd vw sq : Int) (dg bd : ByteArray) : Value := if inB id 0 6 && sOK id kd vw sq dg bd then msgV kd vw sq id dg bd (mmk kd vw sq id.toNat dg bd) else msgV 0 0 0 0 ⟨#[]⟩ ⟨#[]⟩ ⟨#[]⟩
theorem s_cases (id kd vw sq : Int) (dg bd : ByteArray) : (inB id 0 6 = false ∧ sCode id kd vw sq dg bd = 4 ∧ sV id kd vw sq dg bd = msgV 0 0 0 0 ⟨#[]⟩ ⟨#[]⟩ ⟨#[]⟩) ∨ (inB id 0 6 = true ∧ msgB kd vw sq id dg bd b8 = false ∧ sCode id kd vw sq dg bd = 1 ∧ sV id kd vw sq dg bd = msgV 0 0 0 0 ⟨#[]⟩ ⟨#[]⟩ ⟨#[]⟩) ∨
    (∃ i : Nat, id = i ∧ i < 7 ∧ inB id 0 6 = true ∧ msgB kd vw sq i dg bd b8 = true ∧ sCode id kd vw sq dg bd = 0 ∧ sV id kd vw sq dg bd = msgV kd vw sq i dg bd (mmk kd vw sq i dg bd)) := by
  unfold sCode sV sOK
  cases h1 : inB id 0 6 with
  | false => exact .inl ⟨rfl, rfl, rfl⟩
  | true =>
    cases h2 : msgB kd vw sq id dg bd b8 with
    | false => exact .inr (.inl ⟨rfl, rfl, rfl, rfl⟩)
    | true =>
      unfold inB at h1
      simp only [decide_eq_true_eq] at h1
      obtain ⟨i, rfl⟩ := Int.eq_ofNat_of_zero_le h1.1
      exact .inr (.inr ⟨i, rfl, by omega, rfl, h2, rfl, rfl⟩)
theorem node_any (n : Int) (w : World) : Calls Tryz.prog 119 #[.int .i64 n] w fun e w' => e = .returned (.bool (inB n 0 6)) ∧ w = w' := (nodeOK_any n w).mono fun _ _ h => ⟨h.1, h.2.symm⟩
theorem in_any (x a b : Int) (w : World) : Calls Tryz.prog 23 #[.int .i64 x, .int .i64 a, .int .i64 b] w fun e w' => e = .returned (.bool (inB x a b)) ∧ w = w' := (Rq.l01In_any x a b w).mono fun _ _ h => ⟨h.1, h.2.symm⟩
theorem ret_mc {a b : Value} {c d : Int} (h : a = b ∧ c = d) : Ending.returned (.tuple #[a, .int .i64 c]) = .returned (.tuple #[b, .int .i64 d]) := by rw [h.1, h.2]
end Go.Proofs.YtkfiahemgdppfaaGreatDoor.Si
