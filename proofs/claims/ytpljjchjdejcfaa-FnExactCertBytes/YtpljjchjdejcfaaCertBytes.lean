/-
  impl.CertBytes answers at every certificate just what the specification's CertBytes answers; it leaves the certificate as it was, keeps nothing of it, and its answer owns its memory.
  Conditions: none beyond the given row's own.
-/
import Derived.Test.YtpljjchjdejcfaaHc
import Derived.Test.YtpljjchjdejcfaaCb3
import Derived.Test.YtpljjchjdejcfaaMark
import Derived.WalkKit
import Derived.ProofKit
import Derived.OpenShut
import Derived.ShutString
import Derived.ChangeOld
import Derived.Below
namespace Go.Proofs.Ytpljjchjdejcfaa.fnExactCertBytes
open Go.ChangeShapes Go.WideShapes Go.ChangeAt Go.RowKit
open Go.ChangeMaps (open_string shut_string)

theorem own : ownKnob Try.prog.godebug = none := by kernel_rfl
theorem laidOut : laidOutB Try.prog = true := by kernel_rfl

open Go.Proofs.Ytpljjchjdejcfaa.Sl Go.Proofs.Ytpljjchjdejcfaa.By Go.Proofs.Ytpljjchjdejcfaa.Ap Go.Proofs.Ytpljjchjdejcfaa.Rg Go.Proofs.Ytpljjchjdejcfaa.Gm Go.Proofs.Ytpljjchjdejcfaa.Cb Go.Proofs.Ytpljjchjdejcfaa.Lb Go.Proofs.Ytpljjchjdejcfaa.Mk
theorem out_range (bd : ByteArray) (rs : List Mg) : ∀ z ∈ cOut bd rs, 0 ≤ z ∧ z ≤ 255 := by
  by_cases hb : bd.size ≤ 20000
  · cases h : cfB rs with
    | false => rw [(c_no bd rs h).2]; intro z hz; cases hz
    | true => rw [(c_good bd rs h hb).2]; exact listTo_range _ _
  · rw [(c_big bd rs (by omega)).2]; intro z hz; cases hz
theorem out_small (bd : ByteArray) (rs : List Mg) : (cOut bd rs).length ≤ 1048576 := by
  by_cases hb : bd.size ≤ 20000
  · cases h : cfB rs with
    | false => rw [(c_no bd rs h).2]; simp
    | true =>
      rw [(c_good bd rs h hb).2, listTo_length]
      have := lenTo_ok bd rs h hb _ (Nat.le_refl _)
      omega
  · rw [(c_big bd rs (by omega)).2]; simp
set_option maxRecDepth 100000 in
set_option maxHeartbeats 3200000 in
/-- THE WALK: both functions answer alike; the answer owns its memory, behind another call too. -/
theorem walk (bd : ByteArray) (vr : Value) (rs : List Mg) (w : World) (hrow : Row w vr rs) (hlen : rs.length ≤ maxLen) (hm : ∀ x ∈ rs, Tz maxLen x) (hn : bd.size ≤ maxLen) :
    Calls Try.prog 6 #[crtV bd vr] w fun e w' => e = .returned (.bool true) ∧ Below w.heap.size w w' := by
  have HR : Hid (Row w vr rs) := hrow
  have HM : Hid ((∀ x ∈ rs, Tz maxLen x) ∧ rs.length ≤ maxLen) := ⟨hm, hlen⟩
  have HN : Hid (bd.size ≤ maxLen) := hn
  clear hrow hm hlen hn
  have HTO : Hid (∀ W, Row W vr rs → rs.length ≤ 1048576 → Calls Try.prog 21 #[crtV bd vr] W fun e w' => ∃ g, e = .returned (crtV bd (.slice (some ⟨g, 0, none⟩) rs.length rs.length)) ∧ W.heap.size ≤ g ∧ g < w'.heap.size ∧ (∀ i x, rs[i]? = some x → E1 w' g (i * 7) x) ∧ Below W.heap.size W w' ∧ Wr w' g (rs.length * 7)) := fun W h1 h2 => Hc.to_any bd vr rs W h1 h2
  have HSZ : Hid (∀ W, Row W vr rs → Calls Try.prog 19 #[crtV bd vr, .int .i64 1048576] W fun e w' => (∃ r : Int, e = .returned (.int .i64 r) ∧ (r = -1 ∨ ∃ q : Nat, r = q ∧ bd.size ≤ 1048576 ∧ rs.length ≤ 1048576)) ∧ Below W.heap.size W w') := fun W h => (Hc.sz_any bd vr rs W h HM.out.1 HM.out.2 HN.out).mono fun e w' ⟨⟨r, h1, h2⟩, b⟩ => ⟨⟨r, h1, by rcases h2 with h2 | ⟨q, h3, h4⟩; exact .inl h2; exact .inr ⟨q, h3, h4.1, h4.2.1⟩⟩, b⟩
  have HEQ : Hid (∀ W u v, Row W u rs → Row W v rs → rs.length ≤ 1048576 → Calls Try.prog 24 #[crtV bd u, crtV bd v] W fun e w' => e = .returned (.bool true) ∧ Below W.heap.size W w') := fun W u v h1 h2 h3 => Hc.eq_same bd u v rs W h1 h2 h3
  unfold crtV at HTO HSZ HEQ ⊢
  have HBX : Hid (Below w.heap.size w (w.alloc (.cells #[.string bd, vr] 34))) := bel_new _ _
  have HCX : Hid (∀ W, Below (w.alloc (.cells #[.string bd, vr] 34)).heap.size (w.alloc (.cells #[.string bd, vr] 34)) W → (W.cell? ⟨w.heap.size, 0, none⟩ = some (.string bd) ∧ W.cell? ⟨w.heap.size, 1, none⟩ = some (vr)) ∧ Row W vr rs ∧ Below w.heap.size w W) := fun W hW => by
    have h1 := (hW.block w.heap.size (by simp)).trans (heap_alloc_new w _)
    exact ⟨⟨(blk_cell h1 0 rfl).1, (blk_cell h1 1 rfl).1⟩, (HR.out.below HBX.out).below hW, HBX.out.trans (hW.mono HBX.out.size)⟩
  go_enter Try.func6, Try.ntmps6
  go_upto_region 1 with fail
  generalize w.alloc (.cells #[.string bd, vr] 34) = wb at HCX HBX ⊢
  obtain ⟨⟨x0, x1⟩, r1, _⟩ := HCX.out wb (Below.refl _ _)
  have HRB : Hid (Row wb vr rs) := r1
  clear r1 HR
  go_wp2_with fail
  refine (HSZ.out _ HRB.out).mono ?_
  rintro e w1 ⟨⟨r, rfl, hr⟩, b1⟩
  have B1 : Hid (Below wb.heap.size wb w1) := b1
  clear b1 x0 x1
  rcases hr with rfl | ⟨q, rfl, hbd, hl1⟩
  · have HE : Hid (Below w.heap.size w w1) := (HCX.out w1 B1.out).2.2
    go_wp2_with fail
    go_ret
    exact ⟨rfl, HE.out⟩
  have hq' : ¬ (q : Int) < 0 := by omega
  have HBD : Hid (bd.size ≤ 1048576) := hbd
  clear hbd
  have GR : Hid (∀ z ∈ cOut bd rs, 0 ≤ z ∧ z ≤ 255) := out_range bd rs
  have GZ : Hid ((cOut bd rs).length ≤ 1048576) := out_small bd rs
  have HSP : Hid (∀ W u, Row W u rs → Calls Try.prog 20 #[crtV bd u] W fun e w' => ∃ v, e = .returned (.tuple #[v, .int .i64 (cCode bd rs)]) ∧ OwnB 5 w' W.heap.size v (cOut bd rs) ∧ Below W.heap.size W w') := fun W u h => specCertBytes_any bd u rs W h hl1 HBD.out
  have HIM : Hid (∀ W u, Row W u rs → Calls Try.prog 22 #[crtV bd u] W fun e w' => ∃ v, e = .returned (.tuple #[v, .int .i64 (cCode bd rs)]) ∧ OwnB 5 w' W.heap.size v (cOut bd rs) ∧ Below W.heap.size W w') := fun W u h => implCertBytes_any bd u rs W h hl1 HBD.out
  unfold crtV at HSP HIM
  obtain ⟨xs, HX⟩ : ∃ xs, Hid (cOut bd rs = xs) := ⟨_, rfl⟩
  obtain ⟨code, HC⟩ : ∃ code, Hid (cCode bd rs = code) := ⟨_, rfl⟩
  rw [HX.out] at GR GZ HSP HIM
  rw [HC.out] at HSP HIM
  have hcc : (code != code) = false := by simp
  have gz : xs.length ≤ 1048576 := GZ.out
  have hml : ¬ ((1 : Int) + (xs.length : Int) < 0) := by omega
  have hmm : (((1 : Int) + (xs.length : Int)) != (1 : Int) + (xs.length : Int)) = false := by simp
  obtain ⟨⟨x0, x1⟩, r1, _⟩ := HCX.out w1 B1.out
  have HRC : Hid (Row w1 vr rs) := r1
  clear r1
  go_wp2_with fail
  refine (HTO.out _ HRC.out hl1).mono ?_
  rintro e w2 ⟨g2, rfl, _, hg2, e2, b2, _⟩
  have B2 : Hid (Below wb.heap.size wb w2) := B1.out.trans (b2.mono B1.out.size)
  have R2 : Hid (Row w2 (.slice (some ⟨g2, 0, none⟩) rs.length rs.length) rs) := toS_row hg2 e2
  clear b2 e2 hg2 HRC B1 x0 x1
  go_wp2_with fail
  refine (HSP.out _ _ R2.out).mono ?_
  rintro e w3 ⟨v3, rfl, o3, b3⟩
  have r3 : Hid (RowB w3 v3 xs) := own_rowB o3 GR.out
  have B3 : Hid (Below wb.heap.size wb w3) := B2.out.trans (b3.mono B2.out.size)
  clear b3 o3 R2 B2
  obtain ⟨⟨x0, x1⟩, r1, _⟩ := HCX.out w3 B3.out
  have HRC : Hid (Row w3 vr rs) := r1
  clear r1
  go_wp2_with fail
  refine (HTO.out _ HRC.out hl1).mono ?_
  rintro e w4 ⟨g, rfl, hg0, hg1, e4, b4, tw⟩
  have B4 : Hid (Below wb.heap.size wb w4) := B3.out.trans (b4.mono B3.out.size)
  have R4 : Hid (Row w4 (.slice (some ⟨g, 0, none⟩) rs.length rs.length) rs) := toS_row hg1 e4
  have T4 : Hid (Wr w4 g (rs.length * 7) ∧ w3.heap.size ≤ g ∧ g < w4.heap.size) := ⟨tw, hg0, hg1⟩
  have B34 : Hid (Below w3.heap.size w3 w4) := b4
  clear b4 e4 hg0 hg1 tw HRC x0 x1
  have HD : Hid (∀ W, Below (w4.alloc (.cells #[.string bd, .slice (some ⟨g, 0, none⟩) rs.length rs.length] 40)).heap.size (w4.alloc (.cells #[.string bd, .slice (some ⟨g, 0, none⟩) rs.length rs.length] 40)) W → (W.cell? ⟨w4.heap.size, 0, none⟩ = some (.string bd) ∧ W.cell? ⟨w4.heap.size, 1, none⟩ = some (.slice (some ⟨g, 0, none⟩) rs.length rs.length)) ∧ Row W (.slice (some ⟨g, 0, none⟩) rs.length rs.length) rs ∧ Below w4.heap.size w4 W) := fun W hW => by
    have h1 := (hW.block w4.heap.size (by simp)).trans (heap_alloc_new w4 _)
    exact ⟨⟨(blk_cell h1 0 rfl).1, (blk_cell h1 1 rfl).1⟩, (R4.out.below (bel_new _ _)).below hW, (bel_new w4 _).trans (hW.mono (by simp))⟩
  go_upto_region 7 with fail
  generalize w4.alloc (.cells #[.string bd, .slice (some ⟨g, 0, none⟩) rs.length rs.length] 40) = wd at HD ⊢
  obtain ⟨⟨x0, x1⟩, r1, hbd4⟩ := HD.out wd (Below.refl _ _)
  have RD : Hid (Row wd (.slice (some ⟨g, 0, none⟩) rs.length rs.length) rs) := r1
  have B4D : Hid (Below w4.heap.size w4 wd) := hbd4
  clear r1 hbd4 R4
  go_wp2_with fail
  refine (HIM.out _ _ RD.out).mono ?_
  rintro e w5 ⟨v5, rfl, o5, b5⟩
  have B5 : Hid (Below wd.heap.size wd w5) := b5
  have O5 : Hid (OwnB 5 w5 w4.heap.size v5 xs) := own_le o5 B4D.out.size
  have R5 : Hid (RowB w5 v5 xs ∧ RowB w5 v3 xs) := ⟨own_rowB o5 GR.out, ((r3.out.below B34.out).below B4D.out).below b5⟩
  clear b5 o5 x0 x1 RD
  go_wp2_with fail
  refine (eqByteS_same _ _ xs _ R5.out.1 R5.out.2 gz).mono ?_
  rintro e w6 ⟨rfl, b6⟩
  have B6 : Hid (Below wd.heap.size wd w6) := B5.out.trans (b6.mono B5.out.size)
  have O6 : Hid (OwnB 5 w6 w4.heap.size v5 xs) := own_below O5.out b6
  clear b6 B5 O5 R5
  go_upto_region 10 with fail
  have HSA : Hid (∀ W, Below w6.heap.size w6 W → ((W.cell? ⟨w.heap.size, 0, none⟩ = some (.string bd) ∧ W.cell? ⟨w.heap.size, 1, none⟩ = some (vr)) ∧ (W.cell? ⟨w4.heap.size, 0, none⟩ = some (.string bd) ∧ W.cell? ⟨w4.heap.size, 1, none⟩ = some (.slice (some ⟨g, 0, none⟩) rs.length rs.length))) ∧ Row W vr rs ∧ Row W (.slice (some ⟨g, 0, none⟩) rs.length rs.length) rs ∧ Below w4.heap.size w4 W) := fun W hW => by
    have hW2 := B6.out.trans (hW.mono B6.out.size)
    obtain ⟨k1, k2, k3⟩ := HD.out W hW2
    obtain ⟨j1, j2, j3⟩ := HCX.out W (B4.out.trans (k3.mono B4.out.size))
    exact ⟨⟨j1, k1⟩, j2, k2, k3⟩
  obtain ⟨⟨⟨x0, x1⟩, ⟨y0, y1⟩⟩, _, _, _⟩ := HSA.out w6 (Below.refl _ _)
  go_region_held (fun W => (W.cell? ⟨w.heap.size, 0, none⟩ = some (.string bd) ∧ W.cell? ⟨w.heap.size, 1, none⟩ = some (vr)) ∧ (W.cell? ⟨w4.heap.size, 0, none⟩ = some (.string bd) ∧ W.cell? ⟨w4.heap.size, 1, none⟩ = some (.slice (some ⟨g, 0, none⟩) rs.length rs.length))) (first | exact (HSA.out _ Qc.from_drew).1 | exact (HSA.out _ B7.out).1 | exact (HSA.out _ B8.out).1)
    (first | (go_at_call 21; refine (HTO.out _ (HSA.out _ Qc.from_drew).2.1 hl1).mono ?_; rintro e w7 ⟨g7, rfl, _, hg7, e7, b7, _⟩; have B7 : Hid (Below w6.heap.size w6 w7) := Qc.from_drew.trans b7; have R7 : Hid (Row w7 (.slice (some ⟨g7, 0, none⟩) rs.length rs.length) rs) := toS_row hg7 e7; clear hg7 e7 b7) | (go_at_call 24; refine (HEQ.out _ _ _ (HSA.out _ B7.out).2.2.1 R7.out hl1).mono ?_; rintro e w8 ⟨rfl, b8⟩; have B8 : Hid (Below w6.heap.size w6 w8) := B7.out.trans (b8.mono B7.out.size); clear b8))
  clear x0 x1 y0 y1 B7 R7
  obtain ⟨⟨_, ⟨y0, y1⟩⟩, _, _, _⟩ := HSA.out w8 B8.out
  have B48 : Hid (Below w4.heap.size w4 w8) := (HSA.out w8 B8.out).2.2.2
  have O8 : Hid (OwnB 5 w8 w4.heap.size v5 xs) := own_below O6.out B8.out
  clear O6 B8 HSA HD B6 B4D
  have HMK := Hc.mark_any bd g rs.length w3.heap.size w4.heap.size w8 (T4.out.1.below B48.out) T4.out.2.1 T4.out.2.2 hl1
  unfold crtV at HMK
  go_wp2_with fail
  refine HMK.mono ?_
  rintro e w9 ⟨⟨r9, rfl⟩, m9⟩
  clear HMK
  have hr9 : ¬ (r9 : Int) < 0 := by omega
  have B39 : Hid (Below w3.heap.size w3 w9) := (B34.out.trans (B48.out.mono B34.out.size)).trans (m9.below (Nat.le_trans B34.out.size B48.out.size))
  have S49 : Hid (w4.heap.size ≤ w9.heap.size ∧ w3.heap.size ≤ w4.heap.size) := ⟨Nat.le_trans B48.out.size m9.size, B34.out.size⟩
  have O9 : Hid (OwnB 5 w9 w4.heap.size v5 xs) := own_mid O8.out m9
  have R9 : Hid (RowB w9 v5 xs ∧ RowB w9 v3 xs) := ⟨own_rowB O9.out GR.out, r3.out.below B39.out⟩
  clear m9 O8 B48 B34 T4 y0 y1
  go_wp2_with fail
  refine (eqByteS_same _ _ xs _ R9.out.1 R9.out.2 gz).mono ?_
  rintro e w10 ⟨rfl, b10⟩
  have B3x : Hid (Below w3.heap.size w3 w10) := B39.out.trans (b10.mono B39.out.size)
  have S4x : Hid (w4.heap.size ≤ w10.heap.size) := Nat.le_trans S49.out.1 b10.size
  have O10 : Hid (OwnB 5 w10 w4.heap.size v5 xs) := own_below O9.out b10
  clear b10 O9 R9 B39
  go_wp2_with fail
  refine (markByteS_any _ xs 1 w4.heap.size _ O10.out (by decide) (by decide) (by omega)).mono ?_
  rintro e w11 ⟨rfl, o11, k11⟩
  have b11 : Below w4.heap.size w10 w11 := k11.below O10.out S4x.out
  have B3y : Hid (Below w3.heap.size w3 w11) := B3x.out.trans (b11.mono S49.out.2)
  have R11 : Hid (RowB w11 v5 (marks 1 xs.length) ∧ RowB w11 v3 xs) := ⟨own_rowB o11 (marks_range _ _), r3.out.below B3y.out⟩
  have B11 : Hid (Below wb.heap.size wb w11) := B3.out.trans (B3y.out.mono B3.out.size)
  clear o11 k11 b11 O10 S4x B3x S49 r3
  go_wp2_with fail
  refine (heldByteS_any _ xs.length 1 _ R11.out.1 (by decide) (by decide) (by omega)).mono ?_
  rintro e w11' ⟨rfl, rfl⟩
  obtain ⟨⟨x0, x1⟩, q1, _⟩ := HCX.out w11' B11.out
  have HRC : Hid (Row w11' vr rs) := q1
  clear q1
  go_wp2_with fail
  refine (HTO.out _ HRC.out hl1).mono ?_
  rintro e w12 ⟨g12, rfl, _, hg12, e12, b12, _⟩
  have B12 : Hid (Below wb.heap.size wb w12) := B11.out.trans (b12.mono B11.out.size)
  have R12 : Hid (Row w12 (.slice (some ⟨g12, 0, none⟩) rs.length rs.length) rs) := toS_row hg12 e12
  have Q12 : Hid (RowB w12 v5 (marks 1 xs.length) ∧ RowB w12 v3 xs) := ⟨R11.out.1.below b12, R11.out.2.below b12⟩
  clear e12 hg12 b12 R11 HRC x0 x1
  go_wp2_with fail
  refine (HIM.out _ _ R12.out).mono ?_
  rintro e w13 ⟨v13, rfl, o13, b13⟩
  have B13 : Hid (Below wb.heap.size wb w13) := B12.out.trans (b13.mono B12.out.size)
  have Q13 : Hid (RowB w13 v5 (marks 1 xs.length) ∧ RowB w13 v3 xs ∧ RowB w13 v13 xs) := ⟨Q12.out.1.below b13, Q12.out.2.below b13, own_rowB o13 GR.out⟩
  clear o13 b13 Q12 R12 B12
  go_wp2_with fail
  refine (eqByteS_same _ _ xs _ Q13.out.2.2 Q13.out.2.1 gz).mono ?_
  rintro e w14 ⟨rfl, b14⟩
  have B14 : Hid (Below w.heap.size w w14) := (HCX.out w14 (B13.out.trans (b14.mono B13.out.size))).2.2
  have Q14 : Hid (RowB w14 v5 (marks 1 xs.length)) := Q13.out.1.below b14
  clear b14 Q13 B13
  go_wp2_with fail
  refine (heldByteS_any _ xs.length 1 _ Q14.out (by decide) (by decide) (by omega)).mono ?_
  rintro e w15 ⟨rfl, rfl⟩
  go_wp2_with fail
  go_ret
  exact ⟨rfl, B14.out⟩

/-! ### THE ROW's STEP -/
set_option maxRecDepth 100000 in
theorem lifted (os : Os) (started : os.Started) (H : Type) (enc : TypeId × Value → H) :
    ReturnsInHanded {} Try.checked os 6 .any (Rows.fnExactCertBytesSpec.pre6 enc Try.prog Try.f6 Rows.fnExactCertBytesRow.domain false) (Rows.fnExactCertBytesSpec.post enc Try.prog Try.f6 false true false false) := by
  refine returnsInHanded_of_change (C := Try.checked) own started (by kernel_rfl) Try.func6
    (ChangeSpec.witness6 (enc := enc) (C := Try.checked) false ⟨#[], #[.agg #[.string ByteArray.empty, .slice none 0 0]], []⟩ 8 (by kernel_rfl) (by kernel_rfl) (by kernel_rfl) (by kernel_rfl)) ?_
  intro W base args ds gs before hval0 hW hcnd _
  have hval : ∀ (j : Nat) t v, Try.f6.params[j]? = some t → args[j]? = some v → Value.okWide Try.prog W .any base t v := hval0
  have hW' := hW
  obtain ⟨p, q, hA0, hV, rfl, hfz, hnd⟩ := hW
  have hA : DataW.TrodAll enc Try.prog W 0 (fun _ => true) true Try.f6.params.toList args.toList ds p := hA0
  rw [Try.params6] at hA hval
  obtain ⟨v0, vs0, d0, ds0, p0, q0, hargs, rfl, rfl, h0, r0⟩ := trodAll_cons hA
  obtain ⟨rfl, rfl, rfl⟩ := trodAll_nil r0
  obtain rfl : args = #[v0] := by cases args; simp_all
  obtain ⟨rfl, rfl⟩ := trodVars_none hV
  have k00 := h0
  have lt0 : ∀ x ∈ p0, x.block < W.heap.size := by obtain ⟨m, hm⟩ := k00; exact DataW.trod_lt m _ _ _ hm
  obtain ⟨bd0, vr0, rs0, rfl, wr0, ll0, tt0, mm0⟩ := Op.open_cert (hval 0 34 v0 rfl rfl) h0
  clear hA0 hval0
  refine (walk bd0 vr0 rs0 W wr0 ll0 tt0 mm0).mono fun e W' ⟨he, bel⟩ => ?_
  subst he
  exact ⟨_, rfl, _, _, _, [], _, [], hW', trodAll_mk1 (shut_bool Try.underlying4 _), (trodAll_cons_mk (Below.trod laidOut (by kernel_rfl) (of_decide_eq_true (by kernel_rfl)) k00 bel lt0) trodAll_mk0), rfl, bel.frame _, fun h => by cases h⟩

theorem over : Rows.fnExactCertBytesRow.holds Try.pinned (OpenSpec.ofChange Rows.fnExactCertBytesSpec) :=
  OpenClaim.holds_of_wide 6 Try.f6 rfl rfl rfl rfl rfl rfl rfl ⟨rfl, rfl, rfl, rfl, rfl⟩ rfl rfl rfl rfl rfl (by kernel_rfl) Try.func6 (by kernel_rfl)
    (of_decide_eq_true (by kernel_rfl)) (by unfold Func.isWrapper; first | (rw [if_pos (by decide +kernel)]; kernel_rfl) | (rw [if_neg (by decide +kernel)]; exact ⟨rfl, rfl⟩))
    (fun os started H enc _ => lifted os started H enc)

end Go.Proofs.Ytpljjchjdejcfaa.fnExactCertBytes
namespace Go.Proofs.Ytpljjchjdejcfaa
/-- THE STATEMENT. -/
theorem fnExactCertBytes_holds : Rows.FnExactCertBytesSaid := fnExactCertBytes.over
end Go.Proofs.Ytpljjchjdejcfaa
