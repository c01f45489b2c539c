/- Votes for checkpoints: what may be voted for, the marks, VoteMac: of the program and of the specification. -/
import Derived.Test.YtnebohdlndiejaaGreatDoorJInstallTable2
import Derived.Test.YtnebohdlndiejaaGreatDoorQc
import Derived.Deep.RegionLaw
import Derived.Deep.Cut
import Derived.Deep.RegionHeldLaw
namespace Go.Proofs.YtnebohdlndiejaaGreatDoor.Xv
open Go.RowKit Go.Proofs.YtnebohdlndiejaaGreatDoor.Sl Go.Proofs.YtnebohdlndiejaaGreatDoor.By Go.Proofs.YtnebohdlndiejaaGreatDoor.Ap Go.Proofs.YtnebohdlndiejaaGreatDoor.Tx Go.Proofs.YtnebohdlndiejaaGreatDoor.Sh Go.Proofs.YtnebohdlndiejaaGreatDoor.Ho Go.Proofs.YtnebohdlndiejaaGreatDoor.Fz Go.Proofs.YtnebohdlndiejaaGreatDoor.Pu Go.Proofs.YtnebohdlndiejaaGreatDoor.Fu Go.Proofs.YtnebohdlndiejaaGreatDoor.Mr Go.Proofs.YtnebohdlndiejaaGreatDoor.Rm

def bCp : List Int := [99, 104, 101, 99, 107, 112, 111, 105, 110, 116]
def tCp : ByteArray := ⟨#[99, 104, 101, 99, 107, 112, 111, 105, 110, 116]⟩
/-- What a vote's mark stands under; the mark; what may be voted for. -/
def cpBs (sq sz : Int) (rt : ByteArray) : List Int := ((bCp ++ nums sq 2 2) ++ nums sz 2 2) ++ bys rt
def vmk (id : Nat) (sq sz : Int) (rt : ByteArray) : ByteArray := mac id (cpBs sq sz rt)
def vok (sq sz : Int) (rt : ByteArray) : Bool := inR sq 0 65535 && (inR sz 1 64 && ((rt.size : Int) == 32))
theorem cp_head (sq sz : Int) : ∀ z ∈ (bCp ++ nums sq 2 2) ++ nums sz 2 2, 0 ≤ z ∧ z ≤ 255 := range_append (range_append (by decide) (nums_range sq 2 2)) (nums_range sz 2 2)
theorem cp_hlen (sq sz : Int) : ((bCp ++ nums sq 2 2) ++ nums sz 2 2).length = 14 := by rw [List.length_append, List.length_append, nums_length, nums_length]; rfl
theorem cp_len (sq sz : Int) (rt : ByteArray) : (cpBs sq sz rt).length = 14 + rt.size := by unfold cpBs; rw [List.length_append, cp_hlen, bys_length]
theorem vok_size {sq sz : Int} {rt : ByteArray} (h : vok sq sz rt = true) : rt.size = 32 ∧ (1 ≤ sz ∧ sz ≤ 64) ∧ 0 ≤ sq ∧ sq ≤ 65535 := by
  unfold vok at h
  rw [Bool.and_eq_true, Bool.and_eq_true] at h
  obtain ⟨h1, h2, h3⟩ := h
  have := inR_nat h1
  have := inR_nat h2
  simp at h3
  omega
theorem votable_any (sq sz : Int) (rt : ByteArray) (vr : Value) (w : World) :
    Calls Tryz.prog 116 #[.agg #[.int .i64 sq, .int .i64 sz, .string rt, vr]] w fun e w' => e = .returned (.bool (vok sq sz rt)) ∧ Below w.heap.size w w' := by
  have HB : Hid (∀ o, Below w.heap.size w (w.alloc o)) := fun o => bel_new w o
  cases h1 : inR sq 0 65535 with
  | false =>
    have HE : Hid (vok sq sz rt = false) := by show _ = _; unfold vok; rw [h1]; rfl
    go_enter Tryz.func116, Tryz.ntmps116
    go_wp2_with (first | (go_at_call 66; refine (within_any _ _ _ _).mono ?_; rintro e w1 ⟨rfl, rfl⟩; first | rw [h1] | rw [h2]))
    go_ret
    exact ⟨ret_bool HE.out.symm, HB.out _⟩
  | true =>
    cases h2 : inR sz 1 64 with
    | false =>
      have HE : Hid (vok sq sz rt = false) := by show _ = _; unfold vok; rw [h1, h2]; rfl
      go_enter Tryz.func116, Tryz.ntmps116
      go_wp2_with (first | (go_at_call 66; refine (within_any _ _ _ _).mono ?_; rintro e w1 ⟨rfl, rfl⟩; first | rw [h1] | rw [h2]))
      go_ret
      exact ⟨ret_bool HE.out.symm, HB.out _⟩
    | true =>
      have HE : Hid (vok sq sz rt = ((rt.size : Int) == 32)) := by show _ = _; unfold vok; rw [h1, h2]; rfl
      go_enter Tryz.func116, Tryz.ntmps116
      go_wp2_with (first | (go_at_call 66; refine (within_any _ _ _ _).mono ?_; rintro e w1 ⟨rfl, rfl⟩; first | rw [h1] | rw [h2]))
      go_ret
      exact ⟨ret_bool HE.out.symm, HB.out _⟩
theorem l10Ask_any (sq sz : Int) (rt : ByteArray) (w : World) :
    Calls Tryz.prog 79 #[.int .i64 sq, .int .i64 sz, .string rt] w fun e w' => e = .returned (.bool (vok sq sz rt)) ∧ w = w' := by
  cases h1 : inR sq 0 65535 with
  | false =>
    have HE : Hid (vok sq sz rt = false) := by show _ = _; unfold vok; rw [h1]; rfl
    go_enter Tryz.func79, Tryz.ntmps79
    go_wp2_with (first | (go_at_call 29; refine (l01In_any _ _ _ _).mono ?_; rintro e w1 ⟨rfl, rfl⟩; first | rw [h1] | rw [h2]))
    go_ret
    exact ⟨ret_bool HE.out.symm, rfl⟩
  | true =>
    cases h2 : inR sz 1 64 with
    | false =>
      have HE : Hid (vok sq sz rt = false) := by show _ = _; unfold vok; rw [h1, h2]; rfl
      go_enter Tryz.func79, Tryz.ntmps79
      go_wp2_with (first | (go_at_call 29; refine (l01In_any _ _ _ _).mono ?_; rintro e w1 ⟨rfl, rfl⟩; first | rw [h1] | rw [h2]))
      go_ret
      exact ⟨ret_bool HE.out.symm, rfl⟩
    | true =>
      have HE : Hid (vok sq sz rt = ((rt.size : Int) == 32)) := by show _ = _; unfold vok; rw [h1, h2]; rfl
      go_enter Tryz.func79, Tryz.ntmps79
      go_wp2_with (first | (go_at_call 29; refine (l01In_any _ _ _ _).mono ?_; rintro e w1 ⟨rfl, rfl⟩; first | rw [h1] | rw [h2]))
      go_ret
      exact ⟨ret_bool HE.out.symm, rfl⟩
theorem cp_mac (id : Nat) (sq sz : Int) (rt : ByteArray) : mac id (bys (strOfNums ((bCp ++ nums sq 2 2) ++ nums sz 2 2) ++ rt)) = vmk id sq sz rt := by
  unfold vmk cpBs
  rw [bys_append, bys_str _ (cp_head sq sz)]
set_option maxRecDepth 100000 in
set_option maxHeartbeats 800000 in
theorem voteMark_any (id : Nat) (sq sz : Int) (rt : ByteArray) (vr : Value) (w : World) (hi : id < 256) (hs : rt.size ≤ 1000) (hK : KTab w) (hp : 10 < w.heap.size) :
    Calls Tryz.prog 108 #[.int .i64 id, .agg #[.int .i64 sq, .int .i64 sz, .string rt, vr]] w fun e w' => e = .returned (.string (vmk id sq sz rt)) ∧ Below w.heap.size w w' := by
  have HX : Hid (∀ W, Below (w.alloc (.cells #[.int .i64 sq, .int .i64 sz, .string rt, vr] 30)).heap.size (w.alloc (.cells #[.int .i64 sq, .int .i64 sz, .string rt, vr] 30)) W → (W.cell? ⟨w.heap.size, 0, none⟩ = some (.int .i64 sq) ∧ W.cell? ⟨w.heap.size, 1, none⟩ = some (.int .i64 sz) ∧ W.cell? ⟨w.heap.size, 2, none⟩ = some (.string rt)) ∧ Below w.heap.size w W) := fun W hW => by
    have h1 := (hW.block w.heap.size (by simp)).trans (heap_alloc_new w _)
    exact ⟨⟨(blk_cell h1 0 rfl).1, (blk_cell h1 1 rfl).1, (blk_cell h1 2 rfl).1⟩, (bel_new w _).trans (hW.mono (by simp))⟩
  have HSZ : Hid (w.heap.size < (w.alloc (.cells #[.int .i64 sq, .int .i64 sz, .string rt, vr] 30)).heap.size) := by show _ < _; simp
  have HE := cp_mac id sq sz rt
  have HZ : (strOfNums ((bCp ++ nums sq 2 2) ++ nums sz 2 2)).size = 14 := by rw [strOfNums_size, cp_hlen]
  have GK : Hid (KTab w ∧ 10 < w.heap.size) := ⟨hK, hp⟩
  clear hK hp
  go_enter Tryz.func108, Tryz.ntmps108
  go_upto_region 1 with fail
  generalize w.alloc (.cells #[.int .i64 sq, .int .i64 sz, .string rt, vr] 30) = wb at HX HSZ ⊢
  have HO : Hid (OwnF (wb.alloc (.cells #[.int .u8 99, .int .u8 104, .int .u8 101, .int .u8 99, .int .u8 107, .int .u8 112, .int .u8 111, .int .u8 105, .int .u8 110, .int .u8 116] 5 (10, 11))) wb.heap.size (.slice (some ⟨wb.heap.size, 0, none⟩) 10 10) bCp) := full_lit wb bCp 10 rfl _ rfl _
  have hk0 := Lib.run_convert_bytes_const (P := Tryz.prog) wb 86 5 #[.int .u8 99, .int .u8 104, .int .u8 101, .int .u8 99, .int .u8 107, .int .u8 112, .int .u8 111, .int .u8 105, .int .u8 110, .int .u8 116] 10 10 Tryz.underlying86 Tryz.underlying5
  have HB : Hid (Below wb.heap.size wb (wb.alloc (.cells #[.int .u8 99, .int .u8 104, .int .u8 101, .int .u8 99, .int .u8 107, .int .u8 112, .int .u8 111, .int .u8 105, .int .u8 110, .int .u8 116] 5 (10, 11)))) := bel_new _ _
  obtain ⟨⟨c0, c1, c2⟩, _⟩ := HX.out _ HB.out
  obtain ⟨⟨d0, d1, d2⟩, _⟩ := HX.out _ (Below.refl _ _)
  go_wp2_with fail
  clear hk0
  refine (putNumberF_any _ bCp sq 2 wb.heap.size _ HO.out HB.out.size (by decide) (by decide)).mono ?_
  rintro e w2 ⟨v2, rfl, o2, k2⟩
  have B2 : Hid (Below wb.heap.size wb w2) := HB.out.trans k2
  have O2 : Hid (OwnF w2 wb.heap.size v2 (bCp ++ nums sq 2 2)) := o2
  clear o2 k2 HO HB c0 c1 c2 d0 d1 d2
  obtain ⟨⟨c0, c1, c2⟩, _⟩ := HX.out _ B2.out
  go_wp2_with fail
  refine (putNumberF_any _ _ sz 2 wb.heap.size _ O2.out B2.out.size (by decide) (by rw [List.length_append, nums_length]; decide)).mono ?_
  rintro e w3 ⟨v3, rfl, o3, k3⟩
  have hcv := run_convert_ownF w3 wb.heap.size v3 _ o3
  have B3 : Hid (Below wb.heap.size wb w3) := B2.out.trans k3
  clear o3 k3 O2 B2 c0 c1 c2
  obtain ⟨⟨c0, c1, c2⟩, g3⟩ := HX.out _ B3.out
  have G3 : Hid (Below w.heap.size w w3) := g3
  clear g3 c0 c1
  generalize strOfNums ((bCp ++ nums sq 2 2) ++ nums sz 2 2) = z at hcv HE HZ
  have hA : ¬ 9223372036854775807 < z.size + rt.size := by omega
  have HZ2 : Hid (z.size = 14 ∧ rt.size ≤ 1000) := ⟨HZ, hs⟩
  have HEE : Hid (mac id (bys (z ++ rt)) = vmk id sq sz rt) := HE
  clear HE HZ hs
  go_wp2_with fail
  refine (markOf_any id (z ++ rt) w3 hi (by rw [ByteArray.size_append]; have := HZ2.out; omega) (GK.out.1.below G3.out GK.out.2) (Nat.lt_of_lt_of_le GK.out.2 G3.out.size)).mono ?_
  rintro e w4 ⟨rfl, b4⟩
  rw [HEE.out]
  go_wp2_with fail
  go_ret
  exact ⟨rfl, G3.out.trans (b4.mono G3.out.size)⟩
/-- '[]byte(s)' as functions of the world. -/
noncomputable def byV (X : ByteArray) (W : World) : Value := Classical.choose (bytes_run X W)
noncomputable def byW (X : ByteArray) (W : World) : World := Classical.choose (Classical.choose_spec (bytes_run X W))
theorem by_spec (X : ByteArray) (W : World) : (convert 9 86 (.string X)).run Tryz.prog W = .ok (byV X W) (byW X W) ∧ RowB (byW X W) (byV X W) (bys X) ∧ Below W.heap.size W (byW X W) := Classical.choose_spec (Classical.choose_spec (bytes_run X W))
theorem num2 (x : Int) (w W : World) (hW : Below w.heap.size w W) : Calls Tryz.prog 94 #[.int .i64 x, .int .i64 2] W fun e w' => ∃ v', e = .returned v' ∧ (∀ U, Below w'.heap.size w' U → (convert 86 9 v').run Tryz.prog U = .ok (.string (strOfNums (nums x 2 2))) U) ∧ Below w.heap.size w w' ∧ Below W.heap.size W w' :=
  (l02Number_any x 2 W (by decide)).mono fun e w' ⟨v', h1, h2, h3⟩ => ⟨v', h1, fun U hU => By.run_convert_own (P := Tryz.prog) U W.heap.size 86 5 9 Tryz.underlying86 Tryz.underlying5 Tryz.underlying9 v' _ (own_below h2 hU), hW.trans (h3.mono hW.size), h3⟩
set_option maxRecDepth 100000 in
set_option maxHeartbeats 1600000 in
theorem l10Mac_any (id : Nat) (sq sz : Int) (rt : ByteArray) (w : World) (hi : id < 256) (hs : rt.size ≤ 1000) :
    Calls Tryz.prog 62 #[.int .i64 id, .int .i64 sq, .int .i64 sz, .string rt] w fun e w' => e = .returned (.string (vmk id sq sz rt)) ∧ Below w.heap.size w w' := by
  have hb : bys (((tCp ++ strOfNums (nums sq 2 2)) ++ strOfNums (nums sz 2 2)) ++ rt) = cpBs sq sz rt := by
    rw [bys_append, bys_append, bys_append, bys_str _ (nums_range sq 2 2), bys_str _ (nums_range sz 2 2)]; rfl
  have za : (strOfNums (nums sq 2 2)).size = 2 := by rw [strOfNums_size, nums_length]
  have zb : (strOfNums (nums sz 2 2)).size = 2 := by rw [strOfNums_size, nums_length]
  have hl := cp_len sq sz rt
  have HM0 : Hid (mac id (cpBs sq sz rt) = vmk id sq sz rt) := rfl
  have HA : Hid (∀ W, Below w.heap.size w W → Calls Tryz.prog 94 #[.int .i64 sq, .int .i64 2] W fun e w' => ∃ v', e = .returned v' ∧ (∀ U, Below w'.heap.size w' U → (convert 86 9 v').run Tryz.prog U = .ok (.string (strOfNums (nums sq 2 2))) U) ∧ Below w.heap.size w w' ∧ Below W.heap.size W w') := fun W hW => num2 sq w W hW
  have HB : Hid (∀ W, Below w.heap.size w W → Calls Tryz.prog 94 #[.int .i64 sz, .int .i64 2] W fun e w' => ∃ v', e = .returned v' ∧ (∀ U, Below w'.heap.size w' U → (convert 86 9 v').run Tryz.prog U = .ok (.string (strOfNums (nums sz 2 2))) U) ∧ Below w.heap.size w w' ∧ Below W.heap.size W w') := fun W hW => num2 sz w W hW
  generalize strOfNums (nums sq 2 2) = A at hb za HA
  generalize strOfNums (nums sz 2 2) = Bz at hb zb HB
  have hA : ¬ 9223372036854775807 < tCp.size + A.size := by have : tCp.size = 10 := rfl; omega
  have hA2 : ¬ 9223372036854775807 < (tCp ++ A).size + Bz.size := by rw [ByteArray.size_append]; have : tCp.size = 10 := rfl; omega
  have hA3 : ¬ 9223372036854775807 < ((tCp ++ A) ++ Bz).size + rt.size := by rw [ByteArray.size_append, ByteArray.size_append]; have : tCp.size = 10 := rfl; omega
  have hA4 : ¬ 9223372036854775807 < 10 + A.size := by omega
  have hA5 : ¬ 9223372036854775807 < 10 + A.size + Bz.size := by omega
  have hA6 : ¬ 9223372036854775807 < 10 + A.size + Bz.size + rt.size := by omega
  have hcv := fun W => (by_spec (((tCp ++ A) ++ Bz) ++ rt) W).1
  have HM : Hid (∀ W, Below w.heap.size w W → Calls Tryz.prog 98 #[.int .i64 id, byV (((tCp ++ A) ++ Bz) ++ rt) W] (byW (((tCp ++ A) ++ Bz) ++ rt) W) fun e w' => e = .returned (.string (vmk id sq sz rt)) ∧ Below w.heap.size w w') := fun W hW => by
    obtain ⟨_, r, b⟩ := by_spec (((tCp ++ A) ++ Bz) ++ rt) W
    rw [hb] at r
    rw [← HM0.out]
    have b' := hW.trans (b.mono hW.size)
    exact (l04Mac_any id _ _ _ hi r (fun e => by rw [e] at hl; simp at hl; omega) (by omega)).mono fun e w' ⟨h1, h2⟩ => ⟨h1, b'.trans (h2.mono b'.size)⟩
  have G0 : Hid (Below w.heap.size w w.drew) := (Below.refl _ _).drew
  clear hb hl za zb hs HM0
  unfold tCp at hA hA2 hA3 hcv HM
  go_enter Tryz.func62, Tryz.ntmps62
  go_upto_region 1 with fail
  go_region_law (first
    | (go_simp; go_at_call 98; (with_reducible refine (HM.out _ (by first | exact gB | exact gA)).mono ?_); rintro e w9 ⟨rfl, g9⟩; try go_simp)
    | (go_simp; go_at_call 94; (with_reducible refine (HA.out _ (by first | exact gB | exact G0.out)).mono ?_); rintro e wa ⟨va, rfl, ka, gA, bA⟩; have ca := ka _ (Below.refl _ _); (try (have cb2 := kb _ bA)); try go_simp)
    | (go_simp; go_at_call 94; (with_reducible refine (HB.out _ (by first | exact gA | exact G0.out)).mono ?_); rintro e wbb ⟨vb, rfl, kb, gB, bB⟩; have cb := kb _ (Below.refl _ _); (try (have ca2 := ka _ bB)); try go_simp))
  all_goals
    go_wp2_with fail
    go_ret
    exact ⟨rfl, g9⟩
end Go.Proofs.YtnebohdlndiejaaGreatDoor.Xv
