/- Texts put together: Rm, Rs, Is. -/
import Derived.Test.YtkfiahemgdppfaaGreatDoorP12
import Derived.Test.YtkfiahemgdppfaaGreatDoorP15
import Derived.Deep.RegionHeld3
import Derived.Deep.CutRange
import Derived.Deep.DeepCutAuto
import Derived.Test.YtkfiahemgdppfaaGreatDoorP0
import Derived.OpenShut
import Derived.WalkKit
import Derived.ProofKit
import Derived.ShutString
import Derived.Deep.Fields
/- ReadingMac, of the program and of the specification. -/
namespace Go.Proofs.YtkfiahemgdppfaaGreatDoor.Rm
open Go.RowKit Go.Proofs.YtkfiahemgdppfaaGreatDoor.Sl Go.Proofs.YtkfiahemgdppfaaGreatDoor.By Go.Proofs.YtkfiahemgdppfaaGreatDoor.Ap Go.Proofs.YtkfiahemgdppfaaGreatDoor.Tx Go.Proofs.YtkfiahemgdppfaaGreatDoor.Sh Go.Proofs.YtkfiahemgdppfaaGreatDoor.Ho Go.Proofs.YtkfiahemgdppfaaGreatDoor.Mr

def inR (n a b : Int) : Bool := decide (a ≤ n) && decide (n ≤ b)
theorem ret_bool {a b : Bool} (h : a = b) : Ending.returned (.bool a) = .returned (.bool b) := by rw [h]
theorem inR_nat {n a b : Int} (h : inR n a b = true) : a ≤ n ∧ n ≤ b := by unfold inR at h; simpa using h
theorem within_any (n a b : Int) (w : World) : Calls Tryz.prog 19 #[.int .i64 n, .int .i64 a, .int .i64 b] w fun e w' => e = .returned (.bool (inR n a b)) ∧ w = w' := by
  by_cases h1 : a ≤ n
  · by_cases h2 : n ≤ b
    · have HE : Hid (inR n a b = true) := by show _ = _; unfold inR; rw [decide_eq_true h1, decide_eq_true h2]; rfl
      go_enter Tryz.func19, Tryz.ntmps19
      go_wp2
      go_ret
      exact ⟨ret_bool HE.out.symm, rfl⟩
    · have HE : Hid (inR n a b = false) := by show _ = _; unfold inR; rw [decide_eq_false h2, Bool.and_false]
      go_enter Tryz.func19, Tryz.ntmps19
      go_wp2
      go_ret
      exact ⟨ret_bool HE.out.symm, rfl⟩
  · have HE : Hid (inR n a b = false) := by show _ = _; unfold inR; rw [decide_eq_false h1, Bool.false_and]
    go_enter Tryz.func19, Tryz.ntmps19
    go_wp2
    go_ret
    exact ⟨ret_bool HE.out.symm, rfl⟩
theorem l01In_any (n a b : Int) (w : World) : Calls Tryz.prog 23 #[.int .i64 n, .int .i64 a, .int .i64 b] w fun e w' => e = .returned (.bool (inR n a b)) ∧ w = w' := by
  by_cases h1 : a ≤ n
  · by_cases h2 : n ≤ b
    · have HE : Hid (inR n a b = true) := by show _ = _; unfold inR; rw [decide_eq_true h1, decide_eq_true h2]; rfl
      go_enter Tryz.func23, Tryz.ntmps23
      go_wp2
      go_ret
      exact ⟨ret_bool HE.out.symm, rfl⟩
    · have HE : Hid (inR n a b = false) := by show _ = _; unfold inR; rw [decide_eq_false h2, Bool.and_false]
      go_enter Tryz.func23, Tryz.ntmps23
      go_wp2
      go_ret
      exact ⟨ret_bool HE.out.symm, rfl⟩
  · have HE : Hid (inR n a b = false) := by show _ = _; unfold inR; rw [decide_eq_false h1, Bool.false_and]
    go_enter Tryz.func23, Tryz.ntmps23
    go_wp2
    go_ret
    exact ⟨ret_bool HE.out.symm, rfl⟩
theorem nodeOK_any (n : Int) (w : World) : Calls Tryz.prog 119 #[.int .i64 n] w fun e w' => e = .returned (.bool (inR n 0 6)) ∧ w = w' := by
  go_enter Tryz.func119, Tryz.ntmps119
  go_wp2_with (go_at_call 19; refine (within_any n 0 6 _).mono ?_; rintro e w' ⟨rfl, rfl⟩)
  go_ret
  exact ⟨rfl, rfl⟩
theorem ret_sc {s t : ByteArray} {a b : Int} (h : s = t ∧ a = b) : Ending.returned (.tuple #[.string s, .int .i64 a]) = .returned (.tuple #[.string t, .int .i64 b]) := by rw [h.1, h.2]
/-- What ReadingMac answers. -/
def okM (f x : Int) : Bool := inR f 0 6 && inR x 0 1000000000
def rmCode (f x : Int) : Int := if okM f x then 0 else 4
def rmOut (f x : Int) : ByteArray := if okM f x then rmk f.toNat x else ⟨#[]⟩
theorem rm_cases (f x : Int) : (inR f 0 6 = false ∧ rmCode f x = 4 ∧ rmOut f x = ⟨#[]⟩) ∨ (inR f 0 6 = true ∧ inR x 0 1000000000 = false ∧ rmCode f x = 4 ∧ rmOut f x = ⟨#[]⟩) ∨ (∃ i : Nat, f = i ∧ i < 7 ∧ inR f 0 6 = true ∧ inR x 0 1000000000 = true ∧ rmCode f x = 0 ∧ rmOut f x = rmk i x) := by
  unfold rmCode rmOut okM
  cases h1 : inR f 0 6 with
  | false => exact .inl ⟨rfl, rfl, rfl⟩
  | true =>
    cases h2 : inR x 0 1000000000 with
    | false => exact .inr (.inl ⟨rfl, rfl, rfl, rfl⟩)
    | true =>
      obtain ⟨a, b⟩ := inR_nat h1
      obtain ⟨i, rfl⟩ := Int.eq_ofNat_of_zero_le a
      exact .inr (.inr ⟨i, rfl, by omega, rfl, rfl, rfl, rfl⟩)
end Go.Proofs.YtkfiahemgdppfaaGreatDoor.Rm

/- Readings that are right: impl.readingsOK, readingsSigned, spec.l02Reading. -/
namespace Go.Proofs.YtkfiahemgdppfaaGreatDoor.Rs
open Go.RowKit Go.Proofs.YtkfiahemgdppfaaGreatDoor.Sl Go.Proofs.YtkfiahemgdppfaaGreatDoor.By Go.Proofs.YtkfiahemgdppfaaGreatDoor.Ap Go.Proofs.YtkfiahemgdppfaaGreatDoor.Tx Go.Proofs.YtkfiahemgdppfaaGreatDoor.Sh Go.Proofs.YtkfiahemgdppfaaGreatDoor.Ho Go.Proofs.YtkfiahemgdppfaaGreatDoor.Mr Go.Proofs.YtkfiahemgdppfaaGreatDoor.Rm Go.Proofs.YtkfiahemgdppfaaGreatDoor.Rw

/-- The least number of a node that the reading at i may have. -/
def pv (rs : List Rd) (i : Nat) : Int := if i = 0 then 0 else (rn rs (i - 1)).f + 1
theorem pv_succ (rs : List Rd) (i : Nat) : pv rs (i + 1) = (rn rs i).f + 1 := by unfold pv; rw [if_neg (by omega)]; rfl
/-- The reading at i is right, and stands where it may. -/
def okI (rs : List Rd) (i : Nat) : Bool := inR (rn rs i).f (pv rs i) 6 && (inR (rn rs i).x 0 1000000000 && ((rn rs i).m.size == 8))
/-- It is of a node that there is, and bears its mark. -/
def mkI (nodes : Int) (rs : List Rd) (i : Nat) : Bool := decide ((rn rs i).f < nodes) && ((rn rs i).m.toList == (rmk (rn rs i).f.toNat (rn rs i).x).toList)
def okAll (rs : List Rd) : Bool := decide (∀ i, i < rs.length → okI rs i = true)
def mkAll (nodes : Int) (rs : List Rd) : Bool := decide (∀ i, i < rs.length → mkI nodes rs i = true)
theorem okI_pv {rs : List Rd} {k : Nat} (h : ∀ i, i < k → okI rs i = true) (hk : k ≤ rs.length) : ∀ i, i ≤ k → 0 ≤ pv rs i ∧ pv rs i ≤ 7
  | 0, _ => by unfold pv; simp
  | i + 1, hi => by
    have ih := okI_pv h hk i (by omega)
    have := h i (by omega)
    unfold okI at this
    simp only [Bool.and_eq_true] at this
    obtain ⟨a, b⟩ := inR_nat this.1
    rw [pv_succ]
    omega
theorem okI_f {rs : List Rd} (h : ∀ i, i < rs.length → okI rs i = true) {i : Nat} (hi : i < rs.length) : 0 ≤ (rn rs i).f ∧ (rn rs i).f ≤ 6 ∧ (0 ≤ (rn rs i).x ∧ (rn rs i).x ≤ 1000000000) ∧ (rn rs i).m.size = 8 := by
  have h1 := okI_pv h (Nat.le_refl _) i (by omega)
  have h2 := h i hi
  unfold okI at h2
  simp only [Bool.and_eq_true] at h2
  obtain ⟨a, b⟩ := inR_nat h2.1
  exact ⟨by omega, b, inR_nat h2.2.1, by simpa using h2.2.2⟩
set_option maxRecDepth 100000 in
set_option maxHeartbeats 800000 in
theorem readingsOK_any (v : Value) (rs : List Rd) (w : World) (h : RowR w v rs) (hl : rs.length ≤ 1048576) :
    Calls Tryz.prog 146 #[v] w fun e w' => e = .returned (.bool (okAll rs)) ∧ Below w.heap.size w w' := by
  have HR : Hid (RowR w v rs) := h
  obtain ⟨a, cap, rfl, _⟩ := h
  go_enter Tryz.func146, Tryz.ntmps146
  go_wp2_with fail
  go_loopw [3, 8] (fun p i wr => ∃ k : Nat, k ≤ rs.length ∧ i = .int .i64 k ∧ p = .int .i64 (pv rs k) ∧ Hid ((∀ j, j < k → okI rs j = true) ∧ Below w.heap.size w wr)) (fun _ i _ => rs.length - (intOf i).toNat)
  case atStart => exact ⟨0, by omega, rfl, rfl, ⟨fun j hj => by omega, Below.refl _ _⟩⟩
  case round =>
    obtain ⟨k, hk, rfl, rfl, HK⟩ := hrel
    by_cases hlt : k < rs.length
    · obtain ⟨a', cap', he, hc⟩ := HR.out.below HK.out.2
      rcases hc with hc | ⟨b, off, rfl, _, hbl, hcell⟩
      · exact absurd hlt (by rw [hc]; simp)
      cases he
      obtain ⟨c0, c1, c2⟩ := hcell k hlt
      clear hcell
      have HO : Hid (okI rs k = (inR (rn rs k).f (pv rs k) 6 && (inR (rn rs k).x 0 1000000000 && ((rn rs k).m.size == 8)))) := rfl
      have HS : Hid (pv rs (k + 1) = (rn rs k).f + 1) := pv_succ rs k
      have HN : Hid (okI rs k = false → okAll rs = false) := fun h => decide_eq_false fun hh => by rw [hh k hlt] at h; cases h
      have HY : Hid (okI rs k = true → ∀ j, j < k + 1 → okI rs j = true) := fun h j hj => by
        by_cases e : j = k
        · rw [e]; exact h
        · exact HK.out.1 j (by omega)
      have HBB : Hid (Below w.heap.size w wr) := HK.out.2
      have HW : ∀ o : Obj, Below w.heap.size w (wr.alloc o) := fun o => HBB.out.trans ((bel_new wr o).mono HBB.out.size)
      have HWW : Hid (∀ o : Obj, Below w.heap.size w (wr.alloc o)) := HW
      clear HW
      have hp0 : 0 ≤ pv rs k := (okI_pv HK.out.1 hk k (Nat.le_refl _)).1
      generalize (rn rs k).f = f at c0 HO HS
      generalize (rn rs k).x = x at c1 HO
      generalize (rn rs k).m = m at c2 HO
      generalize pv rs k = p at HO hp0
      cases h1 : inR f p 6 with
      | false =>
        rw [h1] at HO
        go_wp2_with (go_at_call 19; refine (within_any _ _ _ _).mono ?_; rintro e w1 ⟨rfl, rfl⟩; rw [h1])
        go_ret
        exact ⟨ret_bool (HN.out HO.out).symm, HWW.out _⟩
      | true =>
        cases h2 : inR x 0 1000000000 with
        | false =>
          rw [h1, h2] at HO
          go_wp2_with (go_at_call 19; refine (within_any _ _ _ _).mono ?_; rintro e w1 ⟨rfl, rfl⟩; first | rw [h1] | rw [h2])
          go_ret
          exact ⟨ret_bool (HN.out HO.out).symm, HWW.out _⟩
        | true =>
          obtain ⟨f1, f2⟩ := inR_nat h1
          by_cases h3 : m.size = 8
          · have h3' : ((m.size : Int) != 8) = false := by simp; omega
            have HO' : Hid (okI rs k = true) := by show _ = _; rw [HO.out, h1, h2]; simp [h3]
            have hp : 0 ≤ f := by omega
            go_wp2_with (go_at_call 19; refine (within_any _ _ _ _).mono ?_; rintro e w1 ⟨rfl, rfl⟩; first | rw [h1] | rw [h2])
            exact ⟨⟨k + 1, by omega, by go_num, by rw [HS.out], ⟨HY.out HO'.out, HWW.out _⟩⟩, by simp [intOf]; omega⟩
          · have h3' : ((m.size : Int) != 8) = true := by simp; omega
            have HO' : Hid (okI rs k = false) := by show _ = _; rw [HO.out, h1, h2]; simp [h3]
            go_wp2_with (go_at_call 19; refine (within_any _ _ _ _).mono ?_; rintro e w1 ⟨rfl, rfl⟩; first | rw [h1] | rw [h2])
            go_ret
            exact ⟨ret_bool (HN.out HO'.out).symm, HWW.out _⟩
    · obtain rfl : k = rs.length := by omega
      have HY : Hid (okAll rs = true) := decide_eq_true HK.out.1
      go_wp2_with fail
      go_ret
      exact ⟨ret_bool HY.out.symm, HK.out.2⟩
set_option maxRecDepth 100000 in
set_option maxHeartbeats 400000 in
theorem l02Reading_any (f x : Int) (m : ByteArray) (w : World) :
    Calls Tryz.prog 100 #[.agg #[.int .i64 f, .int .i64 x, .string m]] w fun e w' => e = .returned (.bool (inR f 0 6 && (inR x 0 1000000000 && (m.size == 8)))) ∧ Below w.heap.size w w' := by
  cases h1 : inR f 0 6 with
  | false =>
    go_enter Tryz.func100, Tryz.ntmps100
    go_wp2_with (go_at_call 23; refine (l01In_any _ _ _ _).mono ?_; rintro e w1 ⟨rfl, rfl⟩; rw [h1])
    go_ret
    exact ⟨rfl, bel_new _ _⟩
  | true =>
    cases h2 : inR x 0 1000000000 with
    | false =>
      go_enter Tryz.func100, Tryz.ntmps100
      go_wp2_with (go_at_call 23; refine (l01In_any _ _ _ _).mono ?_; rintro e w1 ⟨rfl, rfl⟩; first | rw [h1] | rw [h2])
      go_ret
      exact ⟨rfl, bel_new _ _⟩
    | true =>
      have HE : Hid (((m.size : Int) == 8) = (m.size == 8)) := by
        show _ = _
        by_cases h : m.size = 8
        · simp [h]
        · have : ¬ (m.size : Int) = 8 := by omega
          rw [beq_eq_false_iff_ne.2 this, beq_eq_false_iff_ne.2 h]
      go_enter Tryz.func100, Tryz.ntmps100
      go_wp2_with (go_at_call 23; refine (l01In_any _ _ _ _).mono ?_; rintro e w1 ⟨rfl, rfl⟩; first | rw [h1] | rw [h2])
      go_ret
      exact ⟨ret_bool (by rw [HE.out]; rfl), bel_new _ _⟩
theorem below_n {B : Nat} {w0 w : World} (h : Below B w0 w) {n : Nat} : Below B w0 (w.drewN n) := ⟨h.os, h.tape, h.output, h.size, h.block⟩
theorem pick_cells {w : World} {v : Value} {rs : List Rd} {n cap : Nat} {a : Option Addr} (h : RowR w v rs) (hv : v = .slice a n cap) {k : Nat} (hk : k < rs.length) : ∃ b off, a = some ⟨b, off, none⟩ ∧ b < w.heap.size ∧ w.cell? ⟨b, off + k * 3, none⟩ = some (.int .i64 (rn rs k).f) ∧ w.cell? ⟨b, off + k * 3 + 1, none⟩ = some (.int .i64 (rn rs k).x) ∧ w.cell? ⟨b, off + k * 3 + 2, none⟩ = some (.string (rn rs k).m) := by
  obtain ⟨a', cap', rfl, hc⟩ := h
  rcases hc with hc | ⟨b, off, rfl, _, hbl, hcell⟩
  · exact absurd hk (by rw [hc]; simp)
  cases hv
  exact ⟨b, off, rfl, hbl, hcell k hk⟩
theorem box_cells (w : World) (f x : Int) (m : ByteArray) (t : TypeId) : ∀ W, Below (w.heap.size + 1) (w.alloc (.cells #[.int .i64 f, .int .i64 x, .string m] t)) W → W.cell? ⟨w.heap.size, 0, none⟩ = some (.int .i64 f) ∧ W.cell? ⟨w.heap.size, 1, none⟩ = some (.int .i64 x) ∧ W.cell? ⟨w.heap.size, 2, none⟩ = some (.string m) := fun W hW => by
  have h1 := (hW.block w.heap.size (by omega)).trans (heap_alloc_new w (.cells #[.int .i64 f, .int .i64 x, .string m] t))
  exact ⟨by simp [World.cell?, h1], by simp [World.cell?, h1], by simp [World.cell?, h1]⟩
set_option maxRecDepth 100000 in
set_option maxHeartbeats 1600000 in
theorem readingsSigned_any (nodes : Int) (v : Value) (rs : List Rd) (w : World) (h : RowR w v rs) (hl : rs.length ≤ 1048576) (hK : KTab w) (hp : 0 < w.heap.size) :
    Calls Tryz.prog 129 #[.int .i64 nodes, v] w fun e w' => e = .returned (.bool (okAll rs && mkAll nodes rs)) ∧ Below w.heap.size w w' := by
  have HR : Hid (RowR w v rs) := h
  have GK : Hid (KTab w) := hK
  obtain ⟨a, cap, rfl, _⟩ := h
  clear hK
  cases ho : okAll rs with
  | false =>
    go_enter Tryz.func129, Tryz.ntmps129
    go_wp2_with fail
    refine (readingsOK_any _ rs w HR.out hl).mono ?_
    rintro e w1 ⟨rfl, b1⟩
    rw [ho]
    go_wp2_with fail
    go_ret
    exact ⟨rfl, b1⟩
  | true =>
    have HO : Hid (∀ i, i < rs.length → okI rs i = true) := (show ∀ i, i < rs.length → okI rs i = true from of_decide_eq_true ho)
    go_enter Tryz.func129, Tryz.ntmps129
    go_wp2_with fail
    refine (readingsOK_any _ rs w HR.out hl).mono ?_
    rintro e w1 ⟨rfl, b1⟩
    rw [ho]
    have HB1 : Hid (Below w.heap.size w w1) := b1
    clear b1 ho
    go_wp2_with fail
    go_loopw [12] (fun i wr => ∃ k : Nat, k ≤ rs.length ∧ i = .int .i64 k ∧ Hid ((∀ j, j < k → mkI nodes rs j = true) ∧ Below w.heap.size w wr)) (fun i _ => rs.length - (intOf i).toNat)
    case atStart => exact ⟨0, by omega, rfl, ⟨fun j hj => by omega, HB1.out⟩⟩
    case round =>
      clear HB1
      obtain ⟨k, hk, rfl, HK⟩ := hrel
      by_cases hlt : k < rs.length
      · obtain ⟨b, off, rfl, hbl, c0, c1, c2⟩ := pick_cells (HR.out.below HK.out.2) rfl hlt
        have HM : Hid (mkI nodes rs k = (decide ((rn rs k).f < nodes) && ((rn rs k).m.toList == (rmk (rn rs k).f.toNat (rn rs k).x).toList))) := rfl
        have HN : Hid (mkI nodes rs k = false → mkAll nodes rs = false) := fun h => decide_eq_false fun hh => by rw [hh k hlt] at h; cases h
        have HY : Hid (mkI nodes rs k = true → ∀ j, j < k + 1 → mkI nodes rs j = true) := fun h j hj => by
          by_cases e : j = k
          · rw [e]; exact h
          · exact HK.out.1 j (by omega)
        have hf := (okI_f HO.out hlt)
        have HBB : Hid (Below w.heap.size w wr) := HK.out.2
        clear HK
        generalize (rn rs k).f = f at c0 HM hf
        generalize (rn rs k).x = x at c1 HM hf
        generalize (rn rs k).m = m at c2 HM hf
        obtain ⟨i, rfl⟩ := Int.eq_ofNat_of_zero_le hf.1
        rw [Int.toNat_natCast] at HM
        have hi7 : i < 256 := by omega
        have HX := box_cells wr i x m 157
        have HXX : Hid (∀ W, Below (wr.heap.size + 1) (wr.alloc (.cells #[.int .i64 (i : Int), .int .i64 x, .string m] 157)) W → W.cell? ⟨wr.heap.size, 0, none⟩ = some (.int .i64 (i : Int)) ∧ W.cell? ⟨wr.heap.size, 1, none⟩ = some (.int .i64 x) ∧ W.cell? ⟨wr.heap.size, 2, none⟩ = some (.string m)) := HX
        have HBN : Hid (Below w.heap.size w (wr.alloc (.cells #[.int .i64 (i : Int), .int .i64 x, .string m] 157))) := HBB.out.trans ((bel_new wr _).mono HBB.out.size)
        have HSZ : Hid ((wr.alloc (.cells #[.int .i64 (i : Int), .int .i64 x, .string m] 157)).heap.size = wr.heap.size + 1) := size_new _ _
        have HKK : Hid (KTab (wr.alloc (.cells #[.int .i64 (i : Int), .int .i64 x, .string m] 157)) ∧ 0 < (wr.alloc (.cells #[.int .i64 (i : Int), .int .i64 x, .string m] 157)).heap.size) := ⟨GK.out.below HBN.out hp, Nat.lt_of_lt_of_le hp HBN.out.size⟩
        clear HX hf
        go_upto_region 6 with fail
        generalize wr.alloc (.cells #[.int .i64 (i : Int), .int .i64 x, .string m] 157) = wb at HXX HBN HSZ HKK ⊢
        obtain ⟨x0, x1, x2⟩ := HXX.out wb (by rw [← HSZ.out]; exact Below.refl _ _)
        by_cases hg : nodes ≤ (i : Int)
        · have HMF : Hid (mkI nodes rs k = false) := by show _ = _; rw [HM.out, decide_eq_false (by omega)]; rfl
          have hge : decide (nodes ≤ (i : Int)) = true := decide_eq_true hg
          go_quiet (fail)
          all_goals
            go_wp2_with fail
            go_ret
            exact ⟨ret_bool (by rw [HN.out HMF.out]; rfl), below_n HBN.out⟩
        · have hg' : (i : Int) < nodes := by omega
          have HD : Hid (KTab wb.drew ∧ 0 < wb.drew.heap.size) := HKK.out
          have HMM : Hid (mkI nodes rs k = (m.toList == (rmk i x).toList)) := by show _ = _; rw [HM.out, decide_eq_true hg']; rfl
          have HQ : Hid (∀ w2, Below wb.drew.heap.size wb.drew w2 → w2.cell? ⟨wr.heap.size, 0, none⟩ = some (.int .i64 (i : Int)) ∧ w2.cell? ⟨wr.heap.size, 1, none⟩ = some (.int .i64 x) ∧ w2.cell? ⟨wr.heap.size, 2, none⟩ = some (.string m) ∧ Below w.heap.size w w2) := fun w2 hw2 => by
            have hb := (Ap.ordB rfl hw2).1
            obtain ⟨q0, q1, q2⟩ := HXX.out w2 (by rw [← HSZ.out]; exact hb)
            exact ⟨q0, q1, q2, HBN.out.trans (hb.mono HBN.out.size)⟩
          have hge : decide (nodes ≤ (i : Int)) = false := decide_eq_false hg
          cases he : (m.toList == (rmk i x).toList) with
          | true =>
            have he2 : (m.toList != (rmk i x).toList) = false := by rw [bne, he]; rfl
            rw [he] at HMM
            go_region_held (fun w' => w'.cell? ⟨wr.heap.size, 0, none⟩ = some (.int .i64 (i : Int)) ∧ w'.cell? ⟨wr.heap.size, 1, none⟩ = some (.int .i64 x) ∧ w'.cell? ⟨wr.heap.size, 2, none⟩ = some (.string m)) (first | exact ⟨x0, x1, x2⟩ | (refine ⟨?_, ?_, ?_⟩ <;> assumption) | go_keep)
              (first | (go_at_call 147; refine (readingMark_any i x _ hi7 HD.out.1 HD.out.2).mono ?_; rintro e w2 ⟨rfl, b2⟩; obtain ⟨y0, y1, y2, g2⟩ := HQ.out w2 b2; clear b2))
            all_goals
              go_wp2_with fail
              exact ⟨⟨k + 1, by omega, by go_num, ⟨HY.out HMM.out, g2⟩⟩, by simp [intOf]; omega⟩
          | false =>
            have he2 : (m.toList != (rmk i x).toList) = true := by rw [bne, he]; rfl
            rw [he] at HMM
            go_region_held (fun w' => w'.cell? ⟨wr.heap.size, 0, none⟩ = some (.int .i64 (i : Int)) ∧ w'.cell? ⟨wr.heap.size, 1, none⟩ = some (.int .i64 x) ∧ w'.cell? ⟨wr.heap.size, 2, none⟩ = some (.string m)) (first | exact ⟨x0, x1, x2⟩ | (refine ⟨?_, ?_, ?_⟩ <;> assumption) | go_keep)
              (first | (go_at_call 147; refine (readingMark_any i x _ hi7 HD.out.1 HD.out.2).mono ?_; rintro e w2 ⟨rfl, b2⟩; obtain ⟨y0, y1, y2, g2⟩ := HQ.out w2 b2; clear b2))
            all_goals
              go_wp2_with fail
              go_ret
              exact ⟨ret_bool (by rw [HN.out HMM.out]; rfl), g2⟩
      · obtain rfl : k = rs.length := by omega
        have HY : Hid (mkAll nodes rs = true) := decide_eq_true HK.out.1
        go_wp2_with fail
        go_ret
        exact ⟨ret_bool (by rw [HY.out]; rfl), HK.out.2⟩
end Go.Proofs.YtkfiahemgdppfaaGreatDoor.Rs

/- Integers in a slice: read, copied, compared. -/
namespace Go.Proofs.YtkfiahemgdppfaaGreatDoor.Is
open Go.RowKit Go.Proofs.YtkfiahemgdppfaaGreatDoor.Sl

/-- The slice v holds the integers xs (whatever room lies behind them). -/
def RowI (w : World) (v : Value) (xs : List Int) : Prop :=
  ∃ a cap, v = .slice a xs.length cap ∧ (xs = [] ∨ ∃ b off, a = some ⟨b, off, none⟩ ∧ xs.length ≤ cap ∧ b < w.heap.size ∧ ∀ i, i < xs.length → w.cell? ⟨b, off + i, none⟩ = some (.int .i64 (nth xs i))) ∧ ∀ x ∈ xs, -9223372036854775808 ≤ x ∧ x ≤ 9223372036854775807
theorem RowI.below {w w' : World} {v : Value} {xs : List Int} (h : RowI w v xs) (hb : Below w.heap.size w w') : RowI w' v xs := by
  obtain ⟨a, cap, rfl, h, hr⟩ := h
  refine ⟨a, cap, rfl, ?_, hr⟩
  rcases h with h | ⟨b, off, rfl, hc, hlt, h⟩
  · exact .inl h
  · exact .inr ⟨b, off, rfl, hc, Nat.lt_of_lt_of_le hlt hb.size, fun i hi => (hb.cell (p := ⟨b, off + i, none⟩) hlt).trans (h i hi)⟩
theorem info3 : (Tryz.prog.info? 3).map (fun i => (i.zero, i.size, i.bytes)) = some (some (.int .i64 0), 1, 8) := by kernel_rfl
theorem nth_at {xs : List Int} {i : Nat} (h : i < xs.length) : xs[i]? = some (nth xs i) := by
  unfold nth; rw [List.getD_eq_getElem?_getD, List.getElem?_eq_getElem h]; rfl
theorem nth_mem {xs : List Int} {i : Nat} (h : i < xs.length) : nth xs i ∈ xs := List.mem_of_getElem? (nth_at h)
/-- Integers in a slice of the call's own that may have room behind. -/
def OwnI (w : World) (B : Nat) (v : Value) (xs : List Int) : Prop := w.ownsRow B 3 1 v xs.length (xs.map (Value.int .i64))
theorem OwnI.row {w : World} {B : Nat} {v : Value} {xs : List Int} (h : OwnI w B v xs) (hr : ∀ x ∈ xs, -9223372036854775808 ≤ x ∧ x ≤ 9223372036854775807) : RowI w v xs := by
  obtain ⟨hl, h⟩ := h
  rcases h with ⟨rfl, h0⟩ | ⟨g, cap, cur, rfl, hB, hg, hc, _, hs, htk⟩
  · exact ⟨none, 0, by rw [h0], .inl (List.length_eq_zero_iff.1 h0), hr⟩
  · refine ⟨_, cap, rfl, .inr ⟨g, 0, rfl, hc, (Array.getElem?_eq_some_iff.1 hg).1, fun i hi => ?_⟩, hr⟩
    have h1 : (cur.toList.take (xs.length * 1))[i]? = some (.int .i64 (nth xs i)) := by
      rw [htk, List.getElem?_map, nth_at hi]; rfl
    rw [List.getElem?_take] at h1
    split at h1
    · simp only [World.cell?, hg, Nat.zero_add]
      simpa using h1
    · cases h1

end Go.Proofs.YtkfiahemgdppfaaGreatDoor.Is
