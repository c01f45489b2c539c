/- Texts put together: Sm6, Si2, Si3. -/
import Derived.Test.YtondmbeccpekiaaGreatDoorH8
import Derived.Test.YtondmbeccpekiaaGreatDoorH15
import Derived.Test.YtondmbeccpekiaaGreatDoorH1
import Derived.Deep.RegionHeldLaw
/- Signed messages: their marks, SignMessage, MessageSigned, of the program and of the specification. -/
namespace Go.Proofs.YtondmbeccpekiaaGreatDoor.Si
open Go.RowKit Go.Proofs.YtondmbeccpekiaaGreatDoor.Sl Go.Proofs.YtondmbeccpekiaaGreatDoor.By Go.Proofs.YtondmbeccpekiaaGreatDoor.Rq Go.Proofs.YtondmbeccpekiaaGreatDoor.Ap Go.Proofs.YtondmbeccpekiaaGreatDoor.Sh Go.Proofs.YtondmbeccpekiaaGreatDoor.Ho Go.Proofs.YtondmbeccpekiaaGreatDoor.Mr Go.Proofs.YtondmbeccpekiaaGreatDoor.Ms Go.Proofs.YtondmbeccpekiaaGreatDoor.Mp Go.Proofs.YtondmbeccpekiaaGreatDoor.Rp Go.Proofs.YtondmbeccpekiaaGreatDoor.Pu
open Go.Proofs.YtondmbeccpekiaaGreatDoor.Tx (blk_cell blk_set blk_far blk_new bel_new)

theorem plainBs_range (kd vw sq fr : Int) (dg bd : ByteArray) : ∀ z ∈ plainBs kd vw sq fr dg bd, 0 ≤ z ∧ z ≤ 255 := by
  intro z hz
  exact msgBs_range kd vw sq fr dg bd ⟨#[]⟩ z (by unfold msgBs; exact List.mem_append_left _ hz)
theorem plain_ne (kd vw sq fr : Int) (dg bd : ByteArray) : plainBs kd vw sq fr dg bd ≠ [] := fun e => by have := plainBs_length kd vw sq fr dg bd; rw [e] at this; simp at this; omega
def mmk (kd vw sq : Int) (i : Nat) (dg bd : ByteArray) : ByteArray := mac i (plainBs kd vw sq i dg bd)
def BoxM (W : World) (b : Nat) (kd vw sq fr : Int) (dg bd mc : ByteArray) : Prop := W.cell? ⟨b, 0, none⟩ = some (.int .i64 kd) ∧ W.cell? ⟨b, 1, none⟩ = some (.int .i64 vw) ∧ W.cell? ⟨b, 2, none⟩ = some (.int .i64 sq) ∧ W.cell? ⟨b, 3, none⟩ = some (.int .i64 fr) ∧ W.cell? ⟨b, 4, none⟩ = some (.string dg) ∧ W.cell? ⟨b, 5, none⟩ = some (.string bd) ∧ W.cell? ⟨b, 6, none⟩ = some (.string mc)
theorem BoxM.of {W : World} {b : Nat} {kd vw sq fr : Int} {dg bd mc : ByteArray} {t : TypeId} (h : W.heap[b]? = some (.cells #[.int .i64 kd, .int .i64 vw, .int .i64 sq, .int .i64 fr, .string dg, .string bd, .string mc] t (0, 0))) : BoxM W b kd vw sq fr dg bd mc :=
  ⟨(blk_cell h 0 rfl).1, (blk_cell h 1 rfl).1, (blk_cell h 2 rfl).1, (blk_cell h 3 rfl).1, (blk_cell h 4 rfl).1, (blk_cell h 5 rfl).1, (blk_cell h 6 rfl).1⟩
set_option maxRecDepth 100000 in
set_option maxHeartbeats 800000 in
theorem messageMark_any (kd vw sq : Int) (i : Nat) (dg bd mc : ByteArray) (w : World) (hi : i < 7) (hq : msgB kd vw sq i dg bd mc = true) (hK : KTab w) (hp : 0 < w.heap.size) :
    Calls Tryz.prog 75 #[msgV kd vw sq i dg bd mc] w fun e w' => e = .returned (.string (mmk kd vw sq i dg bd)) ∧ Below w.heap.size w w' := by
  have GK : Hid (KTab w) := hK
  have C := implMessageBytes_any kd vw sq i dg bd mc
  have HC : Hid (msgCode kd vw sq i dg bd mc = 0) := by show _ = _; unfold msgCode; rw [hq]; rfl
  have HO : Hid (msgOut kd vw sq i dg bd mc = msgBs kd vw sq i dg bd mc) := by show _ = _; unfold msgOut; rw [hq]; rfl
  obtain ⟨hd, hb, hm⟩ := msg_small hq
  have HL : Hid ((msgBs kd vw sq i dg bd mc).length = 7 + dg.size + bd.size + 8) := by show _ = _; rw [msgBs_length, hm]
  have HP : Hid ((plainBs kd vw sq i dg bd).length = 7 + dg.size + bd.size) := plainBs_length _ _ _ _ _ _
  have HT : Hid (∀ j, j < (plainBs kd vw sq i dg bd).length → nth (msgBs kd vw sq i dg bd mc) j = nth (plainBs kd vw sq i dg bd) j) := fun j hj => by
    unfold nth msgBs
    rw [List.getD_eq_getElem?_getD, List.getD_eq_getElem?_getD, List.getElem?_append_left hj]
  have HM : Hid (mac i (bys (strOfNums (plainBs kd vw sq i dg bd))) = mmk kd vw sq i dg bd) := by show _ = _; rw [bys_str _ (plainBs_range kd vw sq i dg bd)]; rfl
  have HZ : Hid ((strOfNums (plainBs kd vw sq i dg bd)).size ≤ 60000) := by show _ ≤ _; rw [strOfNums_size, HP.out]; omega
  have HR : Hid (∀ z ∈ msgBs kd vw sq i dg bd mc, 0 ≤ z ∧ z ≤ 255) := msgBs_range kd vw sq i dg bd mc
  clear hK hm hq
  unfold msgV at C ⊢
  go_enter Tryz.func75, Tryz.ntmps75
  go_wp2_with fail
  refine (C _).mono ?_
  rintro e w1 ⟨v1, rfl, o1, b1⟩
  rw [HO.out] at o1
  have r1 := own_rowB o1 HR.out
  have g1 := box_first b1
  obtain ⟨q0, q1, q2, q3, q4, q5, q6⟩ := msg_box g1
  have B1 : Hid (Below w.heap.size w w1) := box_old g1
  clear b1 o1 g1 C
  obtain ⟨a, cap, rfl, h, _⟩ := r1
  rcases h with h | ⟨b, off, rfl, hc, hbl, hcell⟩
  · have := HL.out; rw [h] at this; simp at this
  rw [HL.out] at hc ⊢
  go_upto_region 2 with fail
  obtain ⟨X, hX, W, QI0, QO0⟩ := Qc.klass w1
  have QI : Hid (∀ w', Below w1.heap.size w1 w' → ∃ x, w' = W x) := QI0
  have QO : Hid (∀ x, Below w1.heap.size w1 (W x)) := QO0
  clear QI0 QO0
  have hcv : ∀ q, (convert 107 9 (.slice (some ⟨b, off, none⟩) (7 + dg.size + bd.size) cap)).run Tryz.prog (W q) = .ok (.string (strOfNums (plainBs kd vw sq i dg bd))) (W q) := fun q => run_convert_bytes_arg (P := Tryz.prog) (W q) 107 5 Tryz.underlying107 Tryz.underlying5 b off (7 + dg.size + bd.size) cap (plainBs kd vw sq i dg bd) HP.out (fun j hj => by
    rw [(QO.out q).cell (p := ⟨b, off + j, none⟩) hbl, hcell j (by have := HL.out; omega), HT.out j (by have := HP.out; omega)]; rfl) 9 Tryz.underlying9
  have y3 := Qc.cell_all QO.out q3
  have HMK : Hid (∀ z, z = strOfNums (plainBs kd vw sq i dg bd) → ∀ q, Calls Tryz.prog 105 #[.int .i64 i, .string z] (W q) fun e w' => e = .returned (.string (mmk kd vw sq i dg bd)) ∧ Below (W q).heap.size (W q) w') := fun z hz q => by
    subst hz
    have hb2 := B1.out.trans ((QO.out q).mono B1.out.size)
    have := markOf_any i _ (W q) (by omega) HZ.out (GK.out.below hb2 hp) (Nat.lt_of_lt_of_le hp hb2.size)
    rwa [HM.out] at this
  obtain ⟨z, HZZ⟩ : ∃ z, Hid (z = strOfNums (plainBs kd vw sq i dg bd)) := ⟨_, rfl⟩
  rw [← HZZ.out] at hcv
  have HMK2 : Hid (∀ q, Calls Tryz.prog 105 #[.int .i64 i, .string z] (W q) fun e w' => e = .returned (.string (mmk kd vw sq i dg bd)) ∧ Below (W q).heap.size (W q) w') := HMK.out z HZZ.out
  obtain ⟨n, hn⟩ : ∃ n, 7 + dg.size + bd.size = n := ⟨_, rfl⟩
  rw [hn] at hc hcv ⊢
  have hn2 : n ≤ 30000 := by omega
  have hn3 : IntKind.i64.wrap (((n + 8 : Nat) : Int) - 8) = (n : Int) := by rw [IntKind.wrap_i64]; omega
  have hn4 : IntKind.i64.wrap ((n : Int) + 8 - 8) = (n : Int) := by rw [IntKind.wrap_i64]; omega
  have hn5 : (n : Int) ≤ (cap : Int) := by omega
  have hn6 : n ≤ cap := by omega
  obtain ⟨mk, HE⟩ : ∃ mk, Hid (mk = mmk kd vw sq i dg bd) := ⟨_, rfl⟩
  rw [← HE.out] at HMK2
  clear hn q0 q1 q2 q3 q4 q5 q6 hcell HL HT HM HZ HP HMK HZZ GK HO HC HR hd hb hi hp hc hbl
  refine Qc.region_class (W := W) (by kernel_rfl) (by kernel_rfl) (QI.out _ Qc.from_drew) ?_
  repeat (go_big_quiet_step (first | (go_at_call 105; refine (HMK2.out _).mono ?_; rintro e w2 ⟨rfl, b2⟩; exact ⟨rfl, Qc.back QI.out QO.out b2⟩)))
  refine wpQuiet_nil ?_
  rintro _ ⟨xq, rfl⟩
  have G2 : Hid (Below w.heap.size w (W xq)) := B1.out.trans ((QO.out xq).mono B1.out.size)
  clear hcv y3
  generalize W xq = wq at G2 ⊢
  go_wp2_with fail
  go_ret
  exact ⟨Tx.ret_str HE.out, G2.out⟩
end Go.Proofs.YtondmbeccpekiaaGreatDoor.Si

/- SignMessage, of the program and of the specification. -/
namespace Go.Proofs.YtondmbeccpekiaaGreatDoor.Si
open Go.RowKit Go.Proofs.YtondmbeccpekiaaGreatDoor.Sl Go.Proofs.YtondmbeccpekiaaGreatDoor.By Go.Proofs.YtondmbeccpekiaaGreatDoor.Rq Go.Proofs.YtondmbeccpekiaaGreatDoor.Ap Go.Proofs.YtondmbeccpekiaaGreatDoor.Sh Go.Proofs.YtondmbeccpekiaaGreatDoor.Ho Go.Proofs.YtondmbeccpekiaaGreatDoor.Mr Go.Proofs.YtondmbeccpekiaaGreatDoor.Ms Go.Proofs.YtondmbeccpekiaaGreatDoor.Mp Go.Proofs.YtondmbeccpekiaaGreatDoor.Rp Go.Proofs.YtondmbeccpekiaaGreatDoor.Pu
open Go.Proofs.YtondmbeccpekiaaGreatDoor.Tx (blk_cell blk_set blk_far blk_new bel_new)

theorem two {w w1 : World} {o0 o1 : Obj} (b : Below ((w.alloc o0).alloc o1).heap.size ((w.alloc o0).alloc o1) w1) : w1.heap[w.heap.size]? = some o0 ∧ w1.heap[w.heap.size + 1]? = some o1 ∧ Below w.heap.size w w1 := by
  have e1 : (w.alloc o0).heap.size = w.heap.size + 1 := by simp
  have e2 : ((w.alloc o0).alloc o1).heap.size = w.heap.size + 1 + 1 := by simp
  have b1 : Below w.heap.size w ((w.alloc o0).alloc o1) := ((Below.refl _ _).alloc (Nat.le_refl _) _).alloc (by rw [e1]; omega) _
  rw [e2] at b
  refine ⟨?_, ?_, b1.trans (b.mono (by omega))⟩
  · rw [b.block _ (by omega), Below.heap_alloc _ _ _ (by omega)]; exact heap_alloc_new w _
  · rw [b.block _ (by omega), ← e1]; exact heap_alloc_new _ _
def b8 : ByteArray := ⟨#[46, 46, 46, 46, 46, 46, 46, 46]⟩
theorem in_any (x a b : Int) (w : World) : Calls Tryz.prog 29 #[.int .i64 x, .int .i64 a, .int .i64 b] w fun e w' => e = .returned (.bool (inB x a b)) ∧ w = w' := (Rq.l01In_any x a b w).mono fun _ _ h => ⟨h.1, h.2.symm⟩
end Go.Proofs.YtondmbeccpekiaaGreatDoor.Si

/- SignMessage of the specification. -/
namespace Go.Proofs.YtondmbeccpekiaaGreatDoor.Si
open Go.RowKit Go.Proofs.YtondmbeccpekiaaGreatDoor.Sl Go.Proofs.YtondmbeccpekiaaGreatDoor.By Go.Proofs.YtondmbeccpekiaaGreatDoor.Rq Go.Proofs.YtondmbeccpekiaaGreatDoor.Ap Go.Proofs.YtondmbeccpekiaaGreatDoor.Sh Go.Proofs.YtondmbeccpekiaaGreatDoor.Ho Go.Proofs.YtondmbeccpekiaaGreatDoor.Mr Go.Proofs.YtondmbeccpekiaaGreatDoor.Ms Go.Proofs.YtondmbeccpekiaaGreatDoor.Mp Go.Proofs.YtondmbeccpekiaaGreatDoor.Rp Go.Proofs.YtondmbeccpekiaaGreatDoor.Pu
open Go.Proofs.YtondmbeccpekiaaGreatDoor.Tx (blk_cell blk_set blk_far blk_new bel_new)

end Go.Proofs.YtondmbeccpekiaaGreatDoor.Si
