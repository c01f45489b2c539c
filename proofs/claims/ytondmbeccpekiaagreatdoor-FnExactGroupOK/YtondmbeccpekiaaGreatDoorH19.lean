/- Texts put together: Rs, Is, So. -/
import Derived.Test.YtondmbeccpekiaaGreatDoorH18
import Derived.Deep.RegionHeld3
import Derived.Deep.CutRange
import Derived.Deep.DeepCutAuto
import Derived.Test.YtondmbeccpekiaaGreatDoorH0
import Derived.OpenShut
import Derived.WalkKit
import Derived.ProofKit
import Derived.ShutString
import Derived.Deep.Fields
import Derived.Laws.AppendOwn
import Derived.Lib.SmallJoins
/- Readings that are right: impl.readingsOK, readingsSigned, spec.l02Reading. -/
namespace Go.Proofs.YtondmbeccpekiaaGreatDoor.Rs
open Go.RowKit Go.Proofs.YtondmbeccpekiaaGreatDoor.Sl Go.Proofs.YtondmbeccpekiaaGreatDoor.By Go.Proofs.YtondmbeccpekiaaGreatDoor.Ap Go.Proofs.YtondmbeccpekiaaGreatDoor.Tx Go.Proofs.YtondmbeccpekiaaGreatDoor.Sh Go.Proofs.YtondmbeccpekiaaGreatDoor.Ho Go.Proofs.YtondmbeccpekiaaGreatDoor.Mr Go.Proofs.YtondmbeccpekiaaGreatDoor.Rm Go.Proofs.YtondmbeccpekiaaGreatDoor.Rw

def pv (rs : List Rd) (i : Nat) : Int := if i = 0 then 0 else (rn rs (i - 1)).f + 1
theorem pv_succ (rs : List Rd) (i : Nat) : pv rs (i + 1) = (rn rs i).f + 1 := by unfold pv; rw [if_neg (by omega)]; rfl
def okI (rs : List Rd) (i : Nat) : Bool := inR (rn rs i).f (pv rs i) 6 && (inR (rn rs i).x 0 1000000000 && ((rn rs i).m.size == 8))
def mkI (nodes : Int) (rs : List Rd) (i : Nat) : Bool := decide ((rn rs i).f < nodes) && ((rn rs i).m.toList == (rmk (rn rs i).f.toNat (rn rs i).x).toList)
def okAll (rs : List Rd) : Bool := decide (∀ i, i < rs.length → okI rs i = true)
def mkAll (nodes : Int) (rs : List Rd) : Bool := decide (∀ i, i < rs.length → mkI nodes rs i = true)
theorem okI_pv {rs : List Rd} {k : Nat} (h : ∀ i, i < k → okI rs i = true) (hk : k ≤ rs.length) : ∀ i, i ≤ k → 0 ≤ pv rs i ∧ pv rs i ≤ 7
  | 0, _ => by unfold pv; simp
  | i + 1, hi => by
    have ih := okI_pv h hk i (by omega)
    have := h i (by omega)
    unfold okI at this
    simp only [Bool.and_eq_true] at this
    obtain ⟨a, b⟩ := inR_nat this.1
    rw [pv_succ]
    omega
theorem okI_f {rs : List Rd} (h : ∀ i, i < rs.length → okI rs i = true) {i : Nat} (hi : i < rs.length) : 0 ≤ (rn rs i).f ∧ (rn rs i).f ≤ 6 ∧ (0 ≤ (rn rs i).x ∧ (rn rs i).x ≤ 1000000000) ∧ (rn rs i).m.size = 8 := by
  have h1 := okI_pv h (Nat.le_refl _) i (by omega)
  have h2 := h i hi
  unfold okI at h2
  simp only [Bool.and_eq_true] at h2
  obtain ⟨a, b⟩ := inR_nat h2.1
  exact ⟨by omega, b, inR_nat h2.2.1, by simpa using h2.2.2⟩
set_option maxRecDepth 100000 in
set_option maxHeartbeats 800000 in
theorem readingsOK_any (v : Value) (rs : List Rd) (w : World) (h : RowR w v rs) (hl : rs.length ≤ 1048576) :
    Calls Tryz.prog 179 #[v] w fun e w' => e = .returned (.bool (okAll rs)) ∧ Below w.heap.size w w' := by
  have HR : Hid (RowR w v rs) := h
  obtain ⟨a, cap, rfl, _⟩ := h
  go_enter Tryz.func179, Tryz.ntmps179
  go_wp2_with fail
  go_loopw [3, 8] (fun p i wr => ∃ k : Nat, k ≤ rs.length ∧ i = .int .i64 k ∧ p = .int .i64 (pv rs k) ∧ Hid ((∀ j, j < k → okI rs j = true) ∧ Below w.heap.size w wr)) (fun _ i _ => rs.length - (intOf i).toNat)
  case atStart => exact ⟨0, by omega, rfl, rfl, ⟨fun j hj => by omega, Below.refl _ _⟩⟩
  case round =>
    obtain ⟨k, hk, rfl, rfl, HK⟩ := hrel
    by_cases hlt : k < rs.length
    · obtain ⟨a', cap', he, hc⟩ := HR.out.below HK.out.2
      rcases hc with hc | ⟨b, off, rfl, _, hbl, hcell⟩
      · exact absurd hlt (by rw [hc]; simp)
      cases he
      obtain ⟨c0, c1, c2⟩ := hcell k hlt
      clear hcell
      have HO : Hid (okI rs k = (inR (rn rs k).f (pv rs k) 6 && (inR (rn rs k).x 0 1000000000 && ((rn rs k).m.size == 8)))) := rfl
      have HS : Hid (pv rs (k + 1) = (rn rs k).f + 1) := pv_succ rs k
      have HN : Hid (okI rs k = false → okAll rs = false) := fun h => decide_eq_false fun hh => by rw [hh k hlt] at h; cases h
      have HY : Hid (okI rs k = true → ∀ j, j < k + 1 → okI rs j = true) := fun h j hj => by
        by_cases e : j = k
        · rw [e]; exact h
        · exact HK.out.1 j (by omega)
      have HBB : Hid (Below w.heap.size w wr) := HK.out.2
      have HW : ∀ o : Obj, Below w.heap.size w (wr.alloc o) := fun o => HBB.out.trans ((bel_new wr o).mono HBB.out.size)
      have HWW : Hid (∀ o : Obj, Below w.heap.size w (wr.alloc o)) := HW
      clear HW
      have hp0 : 0 ≤ pv rs k := (okI_pv HK.out.1 hk k (Nat.le_refl _)).1
      generalize (rn rs k).f = f at c0 HO HS
      generalize (rn rs k).x = x at c1 HO
      generalize (rn rs k).m = m at c2 HO
      generalize pv rs k = p at HO hp0
      cases h1 : inR f p 6 with
      | false =>
        rw [h1] at HO
        go_wp2_with (go_at_call 73; refine (within_any _ _ _ _).mono ?_; rintro e w1 ⟨rfl, rfl⟩; rw [h1])
        go_ret
        exact ⟨ret_bool (HN.out HO.out).symm, HWW.out _⟩
      | true =>
        cases h2 : inR x 0 1000000000 with
        | false =>
          rw [h1, h2] at HO
          go_wp2_with (go_at_call 73; refine (within_any _ _ _ _).mono ?_; rintro e w1 ⟨rfl, rfl⟩; first | rw [h1] | rw [h2])
          go_ret
          exact ⟨ret_bool (HN.out HO.out).symm, HWW.out _⟩
        | true =>
          obtain ⟨f1, f2⟩ := inR_nat h1
          by_cases h3 : m.size = 8
          · have h3' : ((m.size : Int) != 8) = false := by simp; omega
            have HO' : Hid (okI rs k = true) := by show _ = _; rw [HO.out, h1, h2]; simp [h3]
            have hp : 0 ≤ f := by omega
            go_wp2_with (go_at_call 73; refine (within_any _ _ _ _).mono ?_; rintro e w1 ⟨rfl, rfl⟩; first | rw [h1] | rw [h2])
            exact ⟨⟨k + 1, by omega, by go_num, by rw [HS.out], ⟨HY.out HO'.out, HWW.out _⟩⟩, by simp [intOf]; omega⟩
          · have h3' : ((m.size : Int) != 8) = true := by simp; omega
            have HO' : Hid (okI rs k = false) := by show _ = _; rw [HO.out, h1, h2]; simp [h3]
            go_wp2_with (go_at_call 73; refine (within_any _ _ _ _).mono ?_; rintro e w1 ⟨rfl, rfl⟩; first | rw [h1] | rw [h2])
            go_ret
            exact ⟨ret_bool (HN.out HO'.out).symm, HWW.out _⟩
    · obtain rfl : k = rs.length := by omega
      have HY : Hid (okAll rs = true) := decide_eq_true HK.out.1
      go_wp2_with fail
      go_ret
      exact ⟨ret_bool HY.out.symm, HK.out.2⟩
set_option maxRecDepth 100000 in
set_option maxHeartbeats 400000 in
theorem l02Reading_any (f x : Int) (m : ByteArray) (w : World) :
    Calls Tryz.prog 118 #[.agg #[.int .i64 f, .int .i64 x, .string m]] w fun e w' => e = .returned (.bool (inR f 0 6 && (inR x 0 1000000000 && (m.size == 8)))) ∧ Below w.heap.size w w' := by
  cases h1 : inR f 0 6 with
  | false =>
    go_enter Tryz.func118, Tryz.ntmps118
    go_wp2_with (go_at_call 29; refine (l01In_any _ _ _ _).mono ?_; rintro e w1 ⟨rfl, rfl⟩; rw [h1])
    go_ret
    exact ⟨rfl, bel_new _ _⟩
  | true =>
    cases h2 : inR x 0 1000000000 with
    | false =>
      go_enter Tryz.func118, Tryz.ntmps118
      go_wp2_with (go_at_call 29; refine (l01In_any _ _ _ _).mono ?_; rintro e w1 ⟨rfl, rfl⟩; first | rw [h1] | rw [h2])
      go_ret
      exact ⟨rfl, bel_new _ _⟩
    | true =>
      have HE : Hid (((m.size : Int) == 8) = (m.size == 8)) := by
        show _ = _
        by_cases h : m.size = 8
        · simp [h]
        · have : ¬ (m.size : Int) = 8 := by omega
          rw [beq_eq_false_iff_ne.2 this, beq_eq_false_iff_ne.2 h]
      go_enter Tryz.func118, Tryz.ntmps118
      go_wp2_with (go_at_call 29; refine (l01In_any _ _ _ _).mono ?_; rintro e w1 ⟨rfl, rfl⟩; first | rw [h1] | rw [h2])
      go_ret
      exact ⟨ret_bool (by rw [HE.out]; rfl), bel_new _ _⟩
theorem below_n {B : Nat} {w0 w : World} (h : Below B w0 w) {n : Nat} : Below B w0 (w.drewN n) := ⟨h.os, h.tape, h.output, h.size, h.block⟩
theorem pick_cells {w : World} {v : Value} {rs : List Rd} {n cap : Nat} {a : Option Addr} (h : RowR w v rs) (hv : v = .slice a n cap) {k : Nat} (hk : k < rs.length) : ∃ b off, a = some ⟨b, off, none⟩ ∧ b < w.heap.size ∧ w.cell? ⟨b, off + k * 3, none⟩ = some (.int .i64 (rn rs k).f) ∧ w.cell? ⟨b, off + k * 3 + 1, none⟩ = some (.int .i64 (rn rs k).x) ∧ w.cell? ⟨b, off + k * 3 + 2, none⟩ = some (.string (rn rs k).m) := by
  obtain ⟨a', cap', rfl, hc⟩ := h
  rcases hc with hc | ⟨b, off, rfl, _, hbl, hcell⟩
  · exact absurd hk (by rw [hc]; simp)
  cases hv
  exact ⟨b, off, rfl, hbl, hcell k hk⟩
theorem box_cells (w : World) (f x : Int) (m : ByteArray) (t : TypeId) : ∀ W, Below (w.heap.size + 1) (w.alloc (.cells #[.int .i64 f, .int .i64 x, .string m] t)) W → W.cell? ⟨w.heap.size, 0, none⟩ = some (.int .i64 f) ∧ W.cell? ⟨w.heap.size, 1, none⟩ = some (.int .i64 x) ∧ W.cell? ⟨w.heap.size, 2, none⟩ = some (.string m) := fun W hW => by
  have h1 := (hW.block w.heap.size (by omega)).trans (heap_alloc_new w (.cells #[.int .i64 f, .int .i64 x, .string m] t))
  exact ⟨by simp [World.cell?, h1], by simp [World.cell?, h1], by simp [World.cell?, h1]⟩
set_option maxRecDepth 100000 in
set_option maxHeartbeats 1600000 in
theorem readingsSigned_any (nodes : Int) (v : Value) (rs : List Rd) (w : World) (h : RowR w v rs) (hl : rs.length ≤ 1048576) (hK : KTab w) (hp : 0 < w.heap.size) :
    Calls Tryz.prog 163 #[.int .i64 nodes, v] w fun e w' => e = .returned (.bool (okAll rs && mkAll nodes rs)) ∧ Below w.heap.size w w' := by
  have HR : Hid (RowR w v rs) := h
  have GK : Hid (KTab w) := hK
  obtain ⟨a, cap, rfl, _⟩ := h
  clear hK
  cases ho : okAll rs with
  | false =>
    go_enter Tryz.func163, Tryz.ntmps163
    go_wp2_with fail
    refine (readingsOK_any _ rs w HR.out hl).mono ?_
    rintro e w1 ⟨rfl, b1⟩
    rw [ho]
    go_wp2_with fail
    go_ret
    exact ⟨rfl, b1⟩
  | true =>
    have HO : Hid (∀ i, i < rs.length → okI rs i = true) := (show ∀ i, i < rs.length → okI rs i = true from of_decide_eq_true ho)
    go_enter Tryz.func163, Tryz.ntmps163
    go_wp2_with fail
    refine (readingsOK_any _ rs w HR.out hl).mono ?_
    rintro e w1 ⟨rfl, b1⟩
    rw [ho]
    have HB1 : Hid (Below w.heap.size w w1) := b1
    clear b1 ho
    go_wp2_with fail
    go_loopw [12] (fun i wr => ∃ k : Nat, k ≤ rs.length ∧ i = .int .i64 k ∧ Hid ((∀ j, j < k → mkI nodes rs j = true) ∧ Below w.heap.size w wr)) (fun i _ => rs.length - (intOf i).toNat)
    case atStart => exact ⟨0, by omega, rfl, ⟨fun j hj => by omega, HB1.out⟩⟩
    case round =>
      clear HB1
      obtain ⟨k, hk, rfl, HK⟩ := hrel
      by_cases hlt : k < rs.length
      · obtain ⟨b, off, rfl, hbl, c0, c1, c2⟩ := pick_cells (HR.out.below HK.out.2) rfl hlt
        have HM : Hid (mkI nodes rs k = (decide ((rn rs k).f < nodes) && ((rn rs k).m.toList == (rmk (rn rs k).f.toNat (rn rs k).x).toList))) := rfl
        have HN : Hid (mkI nodes rs k = false → mkAll nodes rs = false) := fun h => decide_eq_false fun hh => by rw [hh k hlt] at h; cases h
        have HY : Hid (mkI nodes rs k = true → ∀ j, j < k + 1 → mkI nodes rs j = true) := fun h j hj => by
          by_cases e : j = k
          · rw [e]; exact h
          · exact HK.out.1 j (by omega)
        have hf := (okI_f HO.out hlt)
        have HBB : Hid (Below w.heap.size w wr) := HK.out.2
        clear HK
        generalize (rn rs k).f = f at c0 HM hf
        generalize (rn rs k).x = x at c1 HM hf
        generalize (rn rs k).m = m at c2 HM hf
        obtain ⟨i, rfl⟩ := Int.eq_ofNat_of_zero_le hf.1
        rw [Int.toNat_natCast] at HM
        have hi7 : i < 256 := by omega
        have HX := box_cells wr i x m 158
        have HXX : Hid (∀ W, Below (wr.heap.size + 1) (wr.alloc (.cells #[.int .i64 (i : Int), .int .i64 x, .string m] 158)) W → W.cell? ⟨wr.heap.size, 0, none⟩ = some (.int .i64 (i : Int)) ∧ W.cell? ⟨wr.heap.size, 1, none⟩ = some (.int .i64 x) ∧ W.cell? ⟨wr.heap.size, 2, none⟩ = some (.string m)) := HX
        have HBN : Hid (Below w.heap.size w (wr.alloc (.cells #[.int .i64 (i : Int), .int .i64 x, .string m] 158))) := HBB.out.trans ((bel_new wr _).mono HBB.out.size)
        have HSZ : Hid ((wr.alloc (.cells #[.int .i64 (i : Int), .int .i64 x, .string m] 158)).heap.size = wr.heap.size + 1) := size_new _ _
        have HKK : Hid (KTab (wr.alloc (.cells #[.int .i64 (i : Int), .int .i64 x, .string m] 158)) ∧ 0 < (wr.alloc (.cells #[.int .i64 (i : Int), .int .i64 x, .string m] 158)).heap.size) := ⟨GK.out.below HBN.out hp, Nat.lt_of_lt_of_le hp HBN.out.size⟩
        clear HX hf
        go_upto_region 6 with fail
        generalize wr.alloc (.cells #[.int .i64 (i : Int), .int .i64 x, .string m] 158) = wb at HXX HBN HSZ HKK ⊢
        obtain ⟨x0, x1, x2⟩ := HXX.out wb (by rw [← HSZ.out]; exact Below.refl _ _)
        by_cases hg : nodes ≤ (i : Int)
        · have HMF : Hid (mkI nodes rs k = false) := by show _ = _; rw [HM.out, decide_eq_false (by omega)]; rfl
          have hge : decide (nodes ≤ (i : Int)) = true := decide_eq_true hg
          go_quiet (fail)
          all_goals
            go_wp2_with fail
            go_ret
            exact ⟨ret_bool (by rw [HN.out HMF.out]; rfl), below_n HBN.out⟩
        · have hg' : (i : Int) < nodes := by omega
          have HD : Hid (KTab wb.drew ∧ 0 < wb.drew.heap.size) := HKK.out
          have HMM : Hid (mkI nodes rs k = (m.toList == (rmk i x).toList)) := by show _ = _; rw [HM.out, decide_eq_true hg']; rfl
          have HQ : Hid (∀ w2, Below wb.drew.heap.size wb.drew w2 → w2.cell? ⟨wr.heap.size, 0, none⟩ = some (.int .i64 (i : Int)) ∧ w2.cell? ⟨wr.heap.size, 1, none⟩ = some (.int .i64 x) ∧ w2.cell? ⟨wr.heap.size, 2, none⟩ = some (.string m) ∧ Below w.heap.size w w2) := fun w2 hw2 => by
            have hb := (Ap.ordB rfl hw2).1
            obtain ⟨q0, q1, q2⟩ := HXX.out w2 (by rw [← HSZ.out]; exact hb)
            exact ⟨q0, q1, q2, HBN.out.trans (hb.mono HBN.out.size)⟩
          have hge : decide (nodes ≤ (i : Int)) = false := decide_eq_false hg
          cases he : (m.toList == (rmk i x).toList) with
          | true =>
            have he2 : (m.toList != (rmk i x).toList) = false := by rw [bne, he]; rfl
            rw [he] at HMM
            go_region_held (fun w' => w'.cell? ⟨wr.heap.size, 0, none⟩ = some (.int .i64 (i : Int)) ∧ w'.cell? ⟨wr.heap.size, 1, none⟩ = some (.int .i64 x) ∧ w'.cell? ⟨wr.heap.size, 2, none⟩ = some (.string m)) (first | exact ⟨x0, x1, x2⟩ | (refine ⟨?_, ?_, ?_⟩ <;> assumption) | go_keep)
              (first | (go_at_call 180; refine (readingMark_any i x _ hi7 HD.out.1 HD.out.2).mono ?_; rintro e w2 ⟨rfl, b2⟩; obtain ⟨y0, y1, y2, g2⟩ := HQ.out w2 b2; clear b2))
            all_goals
              go_wp2_with fail
              exact ⟨⟨k + 1, by omega, by go_num, ⟨HY.out HMM.out, g2⟩⟩, by simp [intOf]; omega⟩
          | false =>
            have he2 : (m.toList != (rmk i x).toList) = true := by rw [bne, he]; rfl
            rw [he] at HMM
            go_region_held (fun w' => w'.cell? ⟨wr.heap.size, 0, none⟩ = some (.int .i64 (i : Int)) ∧ w'.cell? ⟨wr.heap.size, 1, none⟩ = some (.int .i64 x) ∧ w'.cell? ⟨wr.heap.size, 2, none⟩ = some (.string m)) (first | exact ⟨x0, x1, x2⟩ | (refine ⟨?_, ?_, ?_⟩ <;> assumption) | go_keep)
              (first | (go_at_call 180; refine (readingMark_any i x _ hi7 HD.out.1 HD.out.2).mono ?_; rintro e w2 ⟨rfl, b2⟩; obtain ⟨y0, y1, y2, g2⟩ := HQ.out w2 b2; clear b2))
            all_goals
              go_wp2_with fail
              go_ret
              exact ⟨ret_bool (by rw [HN.out HMM.out]; rfl), g2⟩
      · obtain rfl : k = rs.length := by omega
        have HY : Hid (mkAll nodes rs = true) := decide_eq_true HK.out.1
        go_wp2_with fail
        go_ret
        exact ⟨ret_bool (by rw [HY.out]; rfl), HK.out.2⟩
end Go.Proofs.YtondmbeccpekiaaGreatDoor.Rs

/- Integers in a slice: read, copied, compared. -/
namespace Go.Proofs.YtondmbeccpekiaaGreatDoor.Is
open Go.RowKit Go.Proofs.YtondmbeccpekiaaGreatDoor.Sl

def RowI (w : World) (v : Value) (xs : List Int) : Prop :=
  ∃ a cap, v = .slice a xs.length cap ∧ (xs = [] ∨ ∃ b off, a = some ⟨b, off, none⟩ ∧ xs.length ≤ cap ∧ b < w.heap.size ∧ ∀ i, i < xs.length → w.cell? ⟨b, off + i, none⟩ = some (.int .i64 (nth xs i))) ∧ ∀ x ∈ xs, -9223372036854775808 ≤ x ∧ x ≤ 9223372036854775807
theorem RowI.below {w w' : World} {v : Value} {xs : List Int} (h : RowI w v xs) (hb : Below w.heap.size w w') : RowI w' v xs := by
  obtain ⟨a, cap, rfl, h, hr⟩ := h
  refine ⟨a, cap, rfl, ?_, hr⟩
  rcases h with h | ⟨b, off, rfl, hc, hlt, h⟩
  · exact .inl h
  · exact .inr ⟨b, off, rfl, hc, Nat.lt_of_lt_of_le hlt hb.size, fun i hi => (hb.cell (p := ⟨b, off + i, none⟩) hlt).trans (h i hi)⟩
theorem info3 : (Tryz.prog.info? 3).map (fun i => (i.zero, i.size, i.bytes)) = some (some (.int .i64 0), 1, 8) := by kernel_rfl
theorem nth_at {xs : List Int} {i : Nat} (h : i < xs.length) : xs[i]? = some (nth xs i) := by
  unfold nth; rw [List.getD_eq_getElem?_getD, List.getElem?_eq_getElem h]; rfl
def OwnI (w : World) (B : Nat) (v : Value) (xs : List Int) : Prop := w.ownsRow B 3 1 v xs.length (xs.map (Value.int .i64))
theorem OwnI.row {w : World} {B : Nat} {v : Value} {xs : List Int} (h : OwnI w B v xs) (hr : ∀ x ∈ xs, -9223372036854775808 ≤ x ∧ x ≤ 9223372036854775807) : RowI w v xs := by
  obtain ⟨hl, h⟩ := h
  rcases h with ⟨rfl, h0⟩ | ⟨g, cap, cur, rfl, hB, hg, hc, _, hs, htk⟩
  · exact ⟨none, 0, by rw [h0], .inl (List.length_eq_zero_iff.1 h0), hr⟩
  · refine ⟨_, cap, rfl, .inr ⟨g, 0, rfl, hc, (Array.getElem?_eq_some_iff.1 hg).1, fun i hi => ?_⟩, hr⟩
    have h1 : (cur.toList.take (xs.length * 1))[i]? = some (.int .i64 (nth xs i)) := by
      rw [htk, List.getElem?_map, nth_at hi]; rfl
    rw [List.getElem?_take] at h1
    split at h1
    · simp only [World.cell?, hg, Nat.zero_add]
      simpa using h1
    · cases h1

def Copied (xs : List Int) (k : Nat) (A : Array Value) : Prop := A.size = xs.length ∧ ∀ j, j < k → A[j]? = some (.int .i64 (nth xs j))

end Go.Proofs.YtondmbeccpekiaaGreatDoor.Is
namespace Go.Proofs.YtondmbeccpekiaaGreatDoor.Op
open Go.ChangeShapes Go.WideShapes Go.ChangeAt Go.RowKit Go.Deep
end Go.Proofs.YtondmbeccpekiaaGreatDoor.Op

/- Sorting by insertion: what it leaves; spec.l04Sorted. -/
namespace Go.Proofs.YtondmbeccpekiaaGreatDoor.So
open Go.RowKit Go.Proofs.YtondmbeccpekiaaGreatDoor.Sl Go.Proofs.YtondmbeccpekiaaGreatDoor.Is

def sw : Nat → List Int → List Int
  | 0, a :: b :: r => b :: a :: r
  | k + 1, a :: r => a :: sw k r
  | _, l => l
theorem sw_length : ∀ (k : Nat) (l : List Int), (sw k l).length = l.length
  | 0, [] => rfl
  | 0, [_] => rfl
  | 0, _ :: _ :: _ => rfl
  | _ + 1, [] => rfl
  | k + 1, a :: r => by rw [sw, List.length_cons, List.length_cons, sw_length k r]
theorem sw_perm : ∀ (k : Nat) (l : List Int), (sw k l).Perm l
  | 0, [] => .refl _
  | 0, [_] => .refl _
  | 0, a :: b :: r => .swap a b r
  | _ + 1, [] => .refl _
  | k + 1, a :: r => .cons a (sw_perm k r)
theorem nth_cons_succ (a : Int) (r : List Int) (p : Nat) : nth (a :: r) (p + 1) = nth r p := by unfold nth; simp
theorem sw_nth : ∀ (k : Nat) (l : List Int) (p : Nat), k + 1 < l.length → nth (sw k l) p = if p = k then nth l (k + 1) else if p = k + 1 then nth l k else nth l p
  | 0, a :: b :: r, p, _ => by
    match p with
    | 0 => rfl
    | 1 => rfl
    | p + 2 => rw [if_neg (by omega), if_neg (by omega)]; rfl
  | k + 1, a :: r, p, h => by
    rw [sw]
    match p with
    | 0 => rw [if_neg (by omega), if_neg (by omega)]; rfl
    | p + 1 =>
      rw [nth_cons_succ, nth_cons_succ, nth_cons_succ, nth_cons_succ, sw_nth k r p (by simpa using h)]
      simp only [Nat.add_right_cancel_iff]
theorem sw_k {k : Nat} {l : List Int} (h : k + 1 < l.length) : nth (sw k l) k = nth l (k + 1) := by rw [sw_nth k l k h, if_pos rfl]
theorem sw_k1 {k : Nat} {l : List Int} (h : k + 1 < l.length) : nth (sw k l) (k + 1) = nth l k := by rw [sw_nth k l (k + 1) h, if_neg (Nat.succ_ne_self k), if_pos rfl]
theorem sw_o {k p : Nat} {l : List Int} (h : k + 1 < l.length) (h1 : p ≠ k) (h2 : p ≠ k + 1) : nth (sw k l) p = nth l p := by rw [sw_nth k l p h, if_neg h1, if_neg h2]
def Asc (m : Nat) (ys : List Int) : Prop := ∀ p q, p < q → q < m → nth ys p ≤ nth ys q
def Ins (k m : Nat) (ys : List Int) : Prop := ∀ p q, p < q → q < m → q ≠ k → nth ys p ≤ nth ys q
theorem Asc.ins {m : Nat} {ys : List Int} (h : Asc m ys) : Ins m (m + 1) ys := fun p q h1 h2 h3 => h p q h1 (by omega)
theorem Ins.done {k m : Nat} {ys : List Int} (h : Ins k m ys) (hk : k = 0 ∨ nth ys (k - 1) ≤ nth ys k) : Asc m ys := by
  intro p q h1 h2
  by_cases e : q = k
  · subst e
    rcases hk with hk | hk
    · omega
    · by_cases e2 : p = q - 1
      · subst e2; exact hk
      · exact Int.le_trans (h p (q - 1) (by omega) (by omega) (by omega)) hk
  · exact h p q h1 h2 e
theorem Ins.step {k m : Nat} {ys : List Int} (h : Ins (k + 1) m ys) (hm : k + 1 < m) (hl : k + 1 < ys.length) (hgt : nth ys (k + 1) < nth ys k) : Ins k m (sw k ys) := by
  intro p q h1 h2 h3
  by_cases e1 : q = k + 1
  · subst e1
    rw [sw_k1 hl]
    by_cases e2 : p = k
    · subst e2; rw [sw_k hl]; omega
    · rw [sw_o hl e2 (by omega)]
      exact h p k (by omega) (by omega) (by omega)
  · rw [sw_o hl h3 e1]
    by_cases e2 : p = k
    · subst e2; rw [sw_k hl]
      exact h (p + 1) q (by omega) h2 e1
    · by_cases e3 : p = k + 1
      · subst e3; rw [sw_k1 hl]
        exact h k q (by omega) h2 e1
      · rw [sw_o hl e2 e3]; exact h p q h1 h2 e1
theorem asc_pair {ys : List Int} (h : Asc ys.length ys) : ys.Pairwise (· ≤ ·) := by
  rw [List.pairwise_iff_getElem]
  intro i j hi hj hij
  have := h i j hij hj
  unfold nth at this
  rwa [List.getD_eq_getElem?_getD, List.getD_eq_getElem?_getD, List.getElem?_eq_getElem hi, List.getElem?_eq_getElem hj] at this
theorem asc_same {xs ys : List Int} (hx : xs.Pairwise (· ≤ ·)) (hy : ys.Pairwise (· ≤ ·)) (h : xs.Perm ys) : xs = ys :=
  h.eq_of_pairwise (fun _ _ _ _ h1 h2 => Int.le_antisymm h1 h2) hx hy

def BlkI (w : World) (g cap : Nat) (ys : List Int) : Prop :=
  ∃ cur, w.heap[g]? = some (.cells cur 3 (0, 0)) ∧ cur.size = cap ∧ ys.length ≤ cap ∧ cap ≤ maxLen ∧ ∀ i, i < ys.length → cur[i]? = some (.int .i64 (nth ys i))
theorem BlkI.cell {w : World} {g cap : Nat} {ys : List Int} (h : BlkI w g cap ys) {i : Nat} (hi : i < ys.length) : w.cell? ⟨g, i, none⟩ = some (.int .i64 (nth ys i)) ∧ w.frozen? ⟨g, i, none⟩ = false := by
  obtain ⟨cur, h1, _, _, _, h2⟩ := h
  exact ⟨(Joins.cell_of_block h1 i).trans (h2 i hi), by simp [World.frozen?, h1]⟩
theorem BlkI.lt {w : World} {g cap : Nat} {ys : List Int} (h : BlkI w g cap ys) : g < w.heap.size := by
  obtain ⟨cur, h1, _⟩ := h
  exact (Array.getElem?_eq_some_iff.1 h1).1
theorem BlkI.of {w : World} {B g n cap : Nat} {ys : List Int} (h : OwnI w B (.slice (some ⟨g, 0, none⟩) n cap) ys) : BlkI w g cap ys ∧ n = ys.length ∧ B ≤ g := by
  obtain ⟨hl, h⟩ := h
  rcases h with ⟨h0, _⟩ | ⟨g', cap', cur, hv, hB, hg, hc, hm, hs, htk⟩
  · cases h0
  · cases hv
    refine ⟨⟨cur, hg, by omega, hc, hm, fun i hi => ?_⟩, rfl, hB⟩
    have h1 : (cur.toList.take (ys.length * 1))[i]? = some (.int .i64 (nth ys i)) := by rw [htk, List.getElem?_map, nth_at hi]; rfl
    rw [List.getElem?_take] at h1
    split at h1
    · simpa using h1
    · cases h1
theorem BlkI.own {w : World} {B g cap : Nat} {ys : List Int} (h : BlkI w g cap ys) (hB : B ≤ g) : OwnI w B (.slice (some ⟨g, 0, none⟩) ys.length cap) ys := by
  obtain ⟨cur, h1, h2, h3, h4, h5⟩ := h
  refine ⟨by simp, .inr ⟨g, cap, cur, rfl, hB, h1, h3, h4, by omega, ?_⟩⟩
  apply List.ext_getElem?
  intro i
  rw [List.getElem?_take, List.getElem?_map]
  by_cases hi : i < ys.length
  · rw [if_pos (by omega), nth_at hi, Array.getElem?_toList, h5 i hi]; rfl
  · rw [if_neg (by omega), List.getElem?_eq_none (by omega)]; rfl
theorem BlkI.swap {w : World} {g cap k : Nat} {ys : List Int} (h : BlkI w g cap ys) (hk : k + 1 < ys.length) :
    BlkI ((w.setCell ⟨g, k + 1, none⟩ (.int .i64 (nth ys k))).setCell ⟨g, k, none⟩ (.int .i64 (nth ys (k + 1)))) g cap (sw k ys) := by
  obtain ⟨cur, h1, h2, h3, h4, h5⟩ := h
  refine ⟨(cur.setIfInBounds (k + 1) (.int .i64 (nth ys k))).setIfInBounds k (.int .i64 (nth ys (k + 1))), Joins.block_setCell (i := k) (Joins.block_setCell (i := k + 1) h1 _) _, by simpa using h2, by rw [sw_length]; exact h3, h4, fun i hi => ?_⟩
  rw [sw_length] at hi
  rw [Array.getElem?_setIfInBounds, sw_nth k ys i hk]
  by_cases e : k = i
  · rw [if_pos e, if_pos (by simp; omega), if_pos e.symm]
  · rw [if_neg e, if_neg (fun x => e x.symm), Array.getElem?_setIfInBounds]
    by_cases e2 : k + 1 = i
    · rw [if_pos e2, if_pos (by omega), if_pos e2.symm]
    · rw [if_neg e2, if_neg (fun x => e2 x.symm)]
      exact h5 i hi
theorem below_set2 {B : Nat} {w0 w : World} (h : Below B w0 w) {g i j : Nat} (hB : B ≤ g) (x y : Value) : Below B w0 ((w.setCell ⟨g, i, none⟩ x).setCell ⟨g, j, none⟩ y) := by
  refine ⟨h.os, h.tape, h.output, by simpa using h.size, fun k hk => ?_⟩
  rw [Below.heap_setCell _ ⟨g, j, none⟩ y k (by simp; omega), Below.heap_setCell _ ⟨g, i, none⟩ x k (by simp; omega)]
  exact h.block k hk
theorem below_n {B : Nat} {w0 w : World} (h : Below B w0 w) {n : Nat} : Below B w0 (w.drewN n) := ⟨h.os, h.tape, h.output, h.size, h.block⟩
theorem BlkI.kept {w w' : World} {g cap : Nat} {ys : List Int} (h : BlkI w g cap ys) (hb : w'.heap[g]? = w.heap[g]?) : BlkI w' g cap ys := by
  obtain ⟨cur, h1, h2⟩ := h
  exact ⟨cur, hb.trans h1, h2⟩

theorem list_ints {P : Program} {ops : Array Oper} {rest : List Oper} {o : Oper} {a : Act} {Q : Exit → Act → World → Prop} (hgd : o.guard = none) (s x : Operand) (t : TypeId)
    (ho : o.op = .call { callee := .builtin .append, args := #[s, x], argTypes := #[t, t] }) (i : TypeInfo) (ht : P.underlying t = some (.slice 3)) (hi : P.info? 3 = some i) (hz : i.zero = some (.int .i64 0))
    (hsize : i.size = 1) (hby : i.bytes = 8) (B : Nat) (w0 W : World) (v : Value) (zs xs : List Int) (b off n cap : Nat) (hn : xs.length = n) (hs : a.eval s = v) (hown : OwnI W B v zs) (hg0 : Below B w0 W) (hB : B ≤ W.heap.size)
    (hx : a.eval x = .slice (some ⟨b, off, none⟩) n cap) (hc : ∀ i, i < xs.length → W.cell? ⟨b, off + i, none⟩ = some (.int .i64 (nth xs i))) (hlen : zs.length + xs.length ≤ 1000000)
    (h : ∀ v' w', OwnI w' B v' (zs ++ xs) → Below B w0 w' → W.heap.size ≤ w'.heap.size → (∀ k, k < W.heap.size → some k ≠ v.ownBlock → w'.heap[k]? = W.heap[k]?) → (v' = .slice none 0 0 ↔ v = .slice none 0 0 ∧ n = 0) → wpList P ops Q rest (a.put o.dst v') w') : wpList P ops Q (o :: rest) a W := by
  subst hn
  refine wpList_append_own _ hgd s x t ho B 3 i (.int .i64 0) 1 8 ht hi hz hsize hby rfl (by decide) v zs.length _ hs hown ⟨b, off, none⟩ xs.length cap (xs.map (Value.int .i64)) hx (by simp) ?_ ?_ (by unfold maxLen; omega) (by omega) hB ?_
  · intro j u hj
    have hj' : j < xs.length := by have := (List.getElem?_eq_some_iff.1 hj).1; simpa using this
    have h2 : (⟨b, off, none⟩ : Addr).add j = ⟨b, off + j, none⟩ := by unfold Addr.add; split <;> simp_all
    rw [h2, hc j hj', ← hj, List.getElem?_map, nth_at hj']; rfl
  · intro c hc
    obtain ⟨z, _, rfl⟩ := List.mem_map.1 hc
    rfl
  · intro v' w' h1 h2 h3
    refine h v' w' (by unfold OwnI; simpa using h1) ?_ h2.size (fun k hk hne => h2.block k hk hne) h3
    exact hg0.grown h2 hB (fun k hk => (hown.lt k hk).1)
theorem OwnI.made (w : World) (B : Nat) (hB : B ≤ w.heap.size) : OwnI (w.alloc (.cells #[] 3)) B (.slice (some ⟨w.heap.size, 0, none⟩) 0 0) [] :=
  World.ownsRow_made w #[] 0 hB (by decide) rfl
theorem bel_new (w : World) (o : Obj) : Below w.heap.size w (w.alloc o) := (Below.refl _ _).alloc (Nat.le_refl _) _
theorem OwnI.some {w : World} {B : Nat} {v : Value} {xs : List Int} (h : OwnI w B v xs) (hne : v ≠ .slice none 0 0) : ∃ g cap, v = .slice (some ⟨g, 0, none⟩) xs.length cap := by
  obtain ⟨_, h⟩ := h
  rcases h with ⟨h, _⟩ | ⟨g, cap, _, h, _⟩
  · exact absurd h hne
  · exact ⟨g, cap, h⟩

set_option maxRecDepth 100000 in
set_option maxHeartbeats 1600000 in
theorem sorted_any (v : Value) (xs : List Int) (w : World) (h : RowI w v xs) (hl : xs.length ≤ 1000) (hne : xs ≠ []) :
    Calls Tryz.prog 120 #[v] w fun e w' => ∃ g cap ys, e = .returned (.slice (some ⟨g, 0, none⟩) xs.length cap) ∧ BlkI w' g cap ys ∧ ys.length = xs.length ∧ ys.Perm xs ∧ Asc ys.length ys ∧ w.heap.size ≤ g ∧ Below w.heap.size w w' := by
  have HR : Hid (∀ x ∈ xs, -9223372036854775808 ≤ x ∧ x ≤ 9223372036854775807) := by obtain ⟨_, _, _, _, hr⟩ := h; exact hr
  obtain ⟨a, cap, rfl, h, _⟩ := h
  rcases h with h | ⟨b, off, rfl, hc, hb, hcell⟩
  · exact absurd h hne
  obtain ⟨i0, hi0, hz0, hz1, hz2⟩ := info_parts info3
  have HC : Hid (∀ i, i < xs.length → w.cell? ⟨b, off + i, none⟩ = some (.int .i64 (nth xs i))) := hcell
  clear hcell
  go_enter Tryz.func120, Tryz.ntmps120
  go_wp2_with (at_builtin; go_must (refine list_ints (by rfl) _ _ 22 (by rfl) i0 Tryz.underlying22 hi0 hz0 hz1 hz2 w.heap.size w _ _ [] xs b off _ cap rfl (by rfl) (OwnI.made w _ (Nat.le_refl _)) (bel_new w _) (by simp) (by rfl) (fun i hi => ((bel_new w _).cell (p := ⟨b, off + i, none⟩) hb).trans (HC.out i hi)) (by simp; omega) ?_; intro v1 w1 o1 b1 _ _ hn1))
  rw [List.nil_append] at o1
  obtain ⟨g, cp, rfl⟩ := OwnI.some o1 (fun e => by have := (hn1.1 e).1; cases this)
  clear hn1
  obtain ⟨k1, _, hBg⟩ := BlkI.of o1
  clear o1
  have hpos : 0 < xs.length := by cases xs with | nil => exact absurd rfl hne | cons x l => simp
  go_wp2_with fail
  go_loopw [4] (fun i wr => ∃ (m : Nat) (ys : List Int), 1 ≤ m ∧ m ≤ xs.length ∧ i = .int .i64 m ∧ Hid (BlkI wr g cp ys ∧ ys.Perm xs ∧ Asc m ys ∧ Below w.heap.size w wr)) (fun i _ => xs.length - (intOf i).toNat)
  case atStart => exact ⟨1, xs, by omega, by omega, rfl, ⟨k1, .refl _, fun p q h1 h2 => by omega, b1⟩⟩
  case round =>
    clear k1 b1
    obtain ⟨m, ys, hm1, hm2, rfl, HY⟩ := hrel
    by_cases hlt : m < xs.length
    · go_wp2_with fail
      go_loopw [5] (fun i wr => ∃ (k : Nat) (ys : List Int), k ≤ m ∧ i = .int .i64 k ∧ Hid (BlkI wr g cp ys ∧ ys.Perm xs ∧ Ins k (m + 1) ys ∧ Below w.heap.size w wr)) (fun i _ => (intOf i).toNat)
      case atStart => exact ⟨m, ys, by omega, rfl, ⟨HY.out.1, HY.out.2.1, HY.out.2.2.1.ins, HY.out.2.2.2⟩⟩
      case round =>
        clear HY
        clear ys
        obtain ⟨k, ys, hk, rfl, HY⟩ := hrel
        have HL : Hid (ys.length = xs.length) := HY.out.2.1.length_eq
        by_cases hk0 : k = 0
        · subst hk0
          go_wp2_with fail
          go_quiet (fail)
          go_wp2_with fail
          exact ⟨⟨m + 1, ys, by omega, by omega, by go_num, ⟨HY.out.1.kept rfl, HY.out.2.1, HY.out.2.2.1.done (.inl rfl), below_n HY.out.2.2.2⟩⟩, by simp [intOf]; omega⟩
        · obtain ⟨j, rfl⟩ : ∃ j, k = j + 1 := ⟨k - 1, by omega⟩
          have c0 := (HY.out.1.cell (i := j) (by have := HL.out; omega)).1
          have c1 := (HY.out.1.cell (i := j + 1) (by have := HL.out; omega)).1
          have f0 := (HY.out.1.cell (i := j) (by have := HL.out; omega)).2
          have f1 := (HY.out.1.cell (i := j + 1) (by have := HL.out; omega)).2
          have q1 : (0 : Int) < (j : Int) + 1 := by omega
          have q2 : (j : Int) + 1 < (xs.length : Int) := by omega
          have q3 : (j : Int) < (xs.length : Int) := by omega
          by_cases hgt : nth ys (j + 1) < nth ys j
          · go_wp2_with fail
            go_quiet (fail)
            go_wp2_with fail
            exact ⟨⟨j, sw j ys, by omega, rfl, ⟨(HY.out.1.kept (w' := wr.drewN nq) rfl).swap (by have := HL.out; omega), (sw_perm j ys).trans HY.out.2.1, HY.out.2.2.1.step (by omega) (by have := HL.out; omega) hgt, below_set2 (below_n HY.out.2.2.2) hBg _ _⟩⟩, by simp [intOf]⟩
          · go_wp2_with fail
            go_quiet (fail)
            go_wp2_with fail
            exact ⟨⟨m + 1, ys, by omega, by omega, by go_num, ⟨HY.out.1.kept rfl, HY.out.2.1, HY.out.2.2.1.done (.inr (by simpa using hgt)), below_n HY.out.2.2.2⟩⟩, by simp [intOf]; omega⟩
    · obtain rfl : m = xs.length := by omega
      go_wp2_with fail
      go_ret
      have hl := HY.out.2.1.length_eq
      exact ⟨g, cp, ys, rfl, HY.out.1, hl, HY.out.2.1, by rw [hl]; exact HY.out.2.2.1, hBg, HY.out.2.2.2⟩
end Go.Proofs.YtondmbeccpekiaaGreatDoor.So
