/- The specification's certifiers. -/
import Derived.Test.YtiflfcpoajijaaaGreatDoorJMakeCertificate22
import Derived.Test.YtiflfcpoajijaaaGreatDoorJMakeCertificate17
import Derived.Test.YtiflfcpoajijaaaGreatDoorQc
namespace Go.Proofs.YtiflfcpoajijaaaGreatDoor.Kc
open Go.RowKit Go.Proofs.YtiflfcpoajijaaaGreatDoor.Sl Go.Proofs.YtiflfcpoajijaaaGreatDoor.By Go.Proofs.YtiflfcpoajijaaaGreatDoor.Ap Go.Proofs.YtiflfcpoajijaaaGreatDoor.Tx Go.Proofs.YtiflfcpoajijaaaGreatDoor.Sh Go.Proofs.YtiflfcpoajijaaaGreatDoor.Ho Go.Proofs.YtiflfcpoajijaaaGreatDoor.Se Go.Proofs.YtiflfcpoajijaaaGreatDoor.Ka Go.Proofs.YtiflfcpoajijaaaGreatDoor.Sx Go.Proofs.YtiflfcpoajijaaaGreatDoor.Hf Go.Proofs.YtiflfcpoajijaaaGreatDoor.Sa Go.Proofs.YtiflfcpoajijaaaGreatDoor.Kx Go.Proofs.YtiflfcpoajijaaaGreatDoor.Lv Go.Proofs.YtiflfcpoajijaaaGreatDoor.Cr Go.Proofs.YtiflfcpoajijaaaGreatDoor.Ns
open Go.Proofs.YtiflfcpoajijaaaGreatDoor.Cs (vC)
open Go.Proofs.YtiflfcpoajijaaaGreatDoor.Tm (fOut fCode)
open Go.Proofs.YtiflfcpoajijaaaGreatDoor.Xq (RowJ rnB rnM rn_iff isV isV_frn okN Rise)
open Go.Proofs.YtiflfcpoajijaaaGreatDoor.Rg (RowG Stays)
open Go.Proofs.YtiflfcpoajijaaaGreatDoor.Is (RowI eqIntS_same)
open Go.Proofs.YtiflfcpoajijaaaGreatDoor.Gr12 (Gg gV grB grB_parts grB_ok nmd_of tx tx_small specGrantOK_any l12Text_any)

/-- The first k are nodes and rise. -/
def Gd (n : Int) (ns : List Int) (k : Nat) : Prop := (∀ j x, j < k → ns[j]? = some x → isV n x = true) ∧ Rise ns k
theorem Gd.zero (n : Int) (ns : List Int) : Gd n ns 0 := ⟨fun j x h => by omega, fun j x y h => by omega⟩
theorem Gd.succ {n : Int} {ns : List Int} {k : Nat} {x : Int} (h : Gd n ns k) (hx : ns[k]? = some x) (h1 : isV n x = true) (h2 : ∀ i y, k = i + 1 → ns[i]? = some y → y < x) : Gd n ns (k + 1) := by
  refine ⟨fun j y hj hy => ?_, fun j y z hj hy hz => ?_⟩
  · by_cases e : j = k
    · subst e; rw [hx] at hy; cases hy; exact h1
    · exact h.1 j y (by omega) hy
  · by_cases e : j + 1 = k
    · subst e; rw [hx] at hz; cases hz; exact h2 j y rfl hy
    · exact h.2 j y z (by omega) hy hz
theorem Gd.all {n : Int} {ns : List Int} (h : Gd n ns ns.length) : rnB n ns = true := rn_iff.2 ⟨fun x hx => by
  obtain ⟨j, hj⟩ := List.getElem?_of_mem hx
  exact h.1 j x (Rg.lt_at hj) hj, h.2⟩
theorem gd_no1 {n : Int} {ns : List Int} {k : Nat} {x : Int} (hx : ns[k]? = some x) (h : isV n x = false) : rnB n ns = false := by
  rw [← Bool.not_eq_true]
  intro hr
  have := (rn_iff.1 hr).1 x (Rg.mem_at hx)
  rw [h] at this
  cases this
theorem gd_no2 {n : Int} {ns : List Int} {j : Nat} {x y : Int} (hy : ns[j]? = some y) (hx : ns[j + 1]? = some x) (h : x ≤ y) : rnB n ns = false := by
  rw [← Bool.not_eq_true]
  intro hr
  have := (rn_iff.1 hr).2 j y x (Rg.lt_at hx) hy hx
  omega
theorem ret_bo {a b : Bool} (h : a = b) : Ending.returned (.bool a) = .returned (.bool b) := by rw [h]
set_option maxRecDepth 100000 in
set_option maxHeartbeats 1600000 in
theorem l12From_1 (v : Value) (ns : List Int) (w : World) (h : RowI w v ns) (hl : ns.length ≤ 1048576) :
    Calls Tryz.prog 40 #[.int .i64 1, v] w fun e w' => e = .returned (.bool (rnB 1 ns && decide ((ns.length : Int) = 1))) ∧ Below w.heap.size w w' := by
  have HR : Hid (∀ W, Below w.heap.size w W → RowJ W v ns) := fun W hW => (RowJ.of_row h).below hW
  obtain ⟨a, cap, rfl, _⟩ := h
  by_cases hq : (ns.length : Int) = 1
  · rw [decide_eq_true hq, Bool.and_true]
    go_enter Tryz.func40, Tryz.ntmps40
    go_upto_region 3 with fail
    clear hq
    go_wp2_with fail
    go_loopw [5] (fun i wr => ∃ k : Nat, k ≤ ns.length ∧ i = .int .i64 k ∧ Hid (Gd 1 ns k ∧ Below w.heap.size w wr)) (fun i _ => ns.length - (intOf i).toNat)
    case atStart => exact ⟨0, by omega, rfl, Gd.zero _ _, Below.refl _ _⟩
    case round =>
      obtain ⟨k, hk, rfl, HZ⟩ := hrel
      by_cases hlt : k < ns.length
      · obtain ⟨x, hx⟩ := Rg.get_at hlt
        have rr := HR.out _ HZ.out.2
        have HPV : Hid (∀ i y, k = i + 1 → ns[i]? = some y → ∃ b off, a = some ⟨b, off, none⟩ ∧ wr.cell? ⟨b, off + i, none⟩ = some (.int .i64 y)) := fun i y _ hy => by
          obtain ⟨b, off, ea, _, hc⟩ := rr.at hy
          exact ⟨b, off, ea, hc⟩
        obtain ⟨b, off, rfl, hbl, d0⟩ := rr.at hx
        clear rr
        have HIN : Hid (∀ W, Calls Tryz.prog 44 #[.int .i64 x, .int .i64 0, .int .i64 0] W fun e w' => e = .returned (.bool (isV 1 x)) ∧ W = w') := fun W => Qm.l01In_any x 0 0 W
        have HN1 : Hid (isV 1 x = false → rnB 1 ns = false) := fun hh => gd_no1 hx hh
        have HN2 : Hid (∀ i y, k = i + 1 → ns[i]? = some y → x ≤ y → rnB 1 ns = false) := fun i y e hy hle => by subst e; exact gd_no2 hy hx hle
        have HS3 : Hid (isV 1 x = true → (∀ i y, k = i + 1 → ns[i]? = some y → y < x) → Gd 1 ns (k + 1)) := fun h1 h2 => HZ.out.1.succ hx h1 h2
        clear hx
        have hkI : (k : Int) < (ns.length : Int) := by omega
        go_upto_region 6 with fail
        obtain ⟨X, hX, W, QI0, QO0⟩ := Qc.klass wr
        have QI : Hid (∀ w', Below wr.heap.size wr w' → ∃ x, w' = W x) := QI0
        have QO : Hid (∀ x, Below wr.heap.size wr (W x)) := QO0
        clear QI0 QO0
        have QB : Hid (∀ x, Below w.heap.size w (W x)) := fun x => HZ.out.2.trans ((QO.out x).mono HZ.out.2.size)
        have y0 := Qc.cell_all QO.out d0
        cases h1 : isV 1 x with
        | false =>
          have HE : Hid (rnB 1 ns = false) := HN1.out h1
          rw [h1] at HIN
          clear h1 HN1 HN2 HS3 d0
          refine Qc.region_class (W := W) (by kernel_rfl) (by kernel_rfl) (QI.out _ Qc.from_drew) ?_
          repeat (go_big_quiet_step (first | (go_at_call 44; refine (HIN.out _).mono ?_; rintro e w2 ⟨rfl, rfl⟩; exact ⟨rfl, ⟨_, rfl⟩⟩)))
          refine wpQuiet_nil ?_
          rintro _ ⟨xq, rfl⟩
          have G2 : Hid (Below w.heap.size w (W xq)) := QB.out xq
          clear y0
          generalize W xq = wq at G2 ⊢
          go_wp2_with fail
          go_ret
          exact ⟨ret_bo HE.out.symm, G2.out⟩
        | true =>
          rw [h1] at HIN HS3
          clear h1 HN1
          by_cases hk0 : k = 0
          · subst hk0
            have HSS : Hid (Gd 1 ns (0 + 1)) := HS3.out rfl (fun i' y' e => by omega)
            clear d0
            simp only [Nat.add_zero] at y0
            refine Qc.region_class (W := W) (by kernel_rfl) (by kernel_rfl) (QI.out _ Qc.from_drew) ?_
            repeat (go_big_quiet_step (first | (go_at_call 44; refine (HIN.out _).mono ?_; rintro e w2 ⟨rfl, rfl⟩; exact ⟨rfl, ⟨_, rfl⟩⟩)))
            refine wpQuiet_nil ?_
            rintro _ ⟨xq, rfl⟩
            have G2 : Hid (Below w.heap.size w (W xq)) := QB.out xq
            clear y0
            generalize W xq = wq at G2 ⊢
            go_wp2_with fail
            exact ⟨⟨0 + 1, by omega, by go_num, ⟨HSS.out, G2.out⟩⟩, by simp [intOf]; omega⟩
          · obtain ⟨j, rfl⟩ : ∃ j, k = j + 1 := ⟨k - 1, by omega⟩
            obtain ⟨y, hy⟩ := Rg.get_at (show j < ns.length by omega)
            obtain ⟨b', off', ea, d1⟩ := HPV.out j y rfl hy
            cases ea
            have HN2' : Hid (x ≤ y → rnB 1 ns = false) := fun hh => HN2.out j y rfl hy hh
            have HS3' : Hid (y < x → Gd 1 ns (j + 1 + 1)) := fun h1 => HS3.out rfl (fun i' y' e hy' => by
              have : i' = j := by omega
              subst this
              rw [hy] at hy'
              cases hy'
              exact h1)
            have y1 := Qc.cell_all QO.out d1
            clear HPV d0 d1 hy HN2 HS3
            have q1 : (0 : Int) < (j : Int) + 1 := by omega
            have q2 : (j : Int) + 1 < (ns.length : Int) := by omega
            have q3 : (j : Int) < (ns.length : Int) := by omega
            by_cases hpf : x ≤ y
            · have HE : Hid (rnB 1 ns = false) := HN2'.out hpf
              have hpe : decide (x ≤ y) = true := decide_eq_true hpf
              refine Qc.region_class (W := W) (by kernel_rfl) (by kernel_rfl) (QI.out _ Qc.from_drew) ?_
              repeat (go_big_quiet_step (first | (go_at_call 44; refine (HIN.out _).mono ?_; rintro e w2 ⟨rfl, rfl⟩; exact ⟨rfl, ⟨_, rfl⟩⟩)))
              refine wpQuiet_nil ?_
              rintro _ ⟨xq, rfl⟩
              have G2 : Hid (Below w.heap.size w (W xq)) := QB.out xq
              clear y0 y1
              generalize W xq = wq at G2 ⊢
              go_wp2_with fail
              go_ret
              exact ⟨ret_bo HE.out.symm, G2.out⟩
            · have hpe : decide (x ≤ y) = false := decide_eq_false hpf
              have HSS : Hid (Gd 1 ns (j + 1 + 1)) := HS3'.out (by omega)
              refine Qc.region_class (W := W) (by kernel_rfl) (by kernel_rfl) (QI.out _ Qc.from_drew) ?_
              repeat (go_big_quiet_step (first | (go_at_call 44; refine (HIN.out _).mono ?_; rintro e w2 ⟨rfl, rfl⟩; exact ⟨rfl, ⟨_, rfl⟩⟩)))
              refine wpQuiet_nil ?_
              rintro _ ⟨xq, rfl⟩
              have G2 : Hid (Below w.heap.size w (W xq)) := QB.out xq
              clear y0 y1
              generalize W xq = wq at G2 ⊢
              go_wp2_with fail
              exact ⟨⟨j + 1 + 1, by omega, by go_num, ⟨HSS.out, G2.out⟩⟩, by simp [intOf]; omega⟩
      · obtain rfl : k = ns.length := by omega
        have HE : Hid (rnB 1 ns = true) := HZ.out.1.all
        go_wp2_with fail
        go_ret
        exact ⟨ret_bo HE.out.symm, HZ.out.2⟩
  · rw [decide_eq_false hq, Bool.and_false]
    go_enter Tryz.func40, Tryz.ntmps40
    go_wp2_with fail
    go_ret
    exact ⟨rfl, Below.refl _ _⟩
set_option maxRecDepth 100000 in
set_option maxHeartbeats 1600000 in
theorem l12From_4 (v : Value) (ns : List Int) (w : World) (h : RowI w v ns) (hl : ns.length ≤ 1048576) :
    Calls Tryz.prog 40 #[.int .i64 4, v] w fun e w' => e = .returned (.bool (rnB 4 ns && decide ((ns.length : Int) = 2))) ∧ Below w.heap.size w w' := by
  have HR : Hid (∀ W, Below w.heap.size w W → RowJ W v ns) := fun W hW => (RowJ.of_row h).below hW
  obtain ⟨a, cap, rfl, _⟩ := h
  by_cases hq : (ns.length : Int) = 2
  · rw [decide_eq_true hq, Bool.and_true]
    go_enter Tryz.func40, Tryz.ntmps40
    go_upto_region 3 with fail
    clear hq
    go_wp2_with fail
    go_loopw [5] (fun i wr => ∃ k : Nat, k ≤ ns.length ∧ i = .int .i64 k ∧ Hid (Gd 4 ns k ∧ Below w.heap.size w wr)) (fun i _ => ns.length - (intOf i).toNat)
    case atStart => exact ⟨0, by omega, rfl, Gd.zero _ _, Below.refl _ _⟩
    case round =>
      obtain ⟨k, hk, rfl, HZ⟩ := hrel
      by_cases hlt : k < ns.length
      · obtain ⟨x, hx⟩ := Rg.get_at hlt
        have rr := HR.out _ HZ.out.2
        have HPV : Hid (∀ i y, k = i + 1 → ns[i]? = some y → ∃ b off, a = some ⟨b, off, none⟩ ∧ wr.cell? ⟨b, off + i, none⟩ = some (.int .i64 y)) := fun i y _ hy => by
          obtain ⟨b, off, ea, _, hc⟩ := rr.at hy
          exact ⟨b, off, ea, hc⟩
        obtain ⟨b, off, rfl, hbl, d0⟩ := rr.at hx
        clear rr
        have HIN : Hid (∀ W, Calls Tryz.prog 44 #[.int .i64 x, .int .i64 0, .int .i64 3] W fun e w' => e = .returned (.bool (isV 4 x)) ∧ W = w') := fun W => Qm.l01In_any x 0 3 W
        have HN1 : Hid (isV 4 x = false → rnB 4 ns = false) := fun hh => gd_no1 hx hh
        have HN2 : Hid (∀ i y, k = i + 1 → ns[i]? = some y → x ≤ y → rnB 4 ns = false) := fun i y e hy hle => by subst e; exact gd_no2 hy hx hle
        have HS3 : Hid (isV 4 x = true → (∀ i y, k = i + 1 → ns[i]? = some y → y < x) → Gd 4 ns (k + 1)) := fun h1 h2 => HZ.out.1.succ hx h1 h2
        clear hx
        have hkI : (k : Int) < (ns.length : Int) := by omega
        go_upto_region 6 with fail
        obtain ⟨X, hX, W, QI0, QO0⟩ := Qc.klass wr
        have QI : Hid (∀ w', Below wr.heap.size wr w' → ∃ x, w' = W x) := QI0
        have QO : Hid (∀ x, Below wr.heap.size wr (W x)) := QO0
        clear QI0 QO0
        have QB : Hid (∀ x, Below w.heap.size w (W x)) := fun x => HZ.out.2.trans ((QO.out x).mono HZ.out.2.size)
        have y0 := Qc.cell_all QO.out d0
        cases h1 : isV 4 x with
        | false =>
          have HE : Hid (rnB 4 ns = false) := HN1.out h1
          rw [h1] at HIN
          clear h1 HN1 HN2 HS3 d0
          refine Qc.region_class (W := W) (by kernel_rfl) (by kernel_rfl) (QI.out _ Qc.from_drew) ?_
          repeat (go_big_quiet_step (first | (go_at_call 44; refine (HIN.out _).mono ?_; rintro e w2 ⟨rfl, rfl⟩; exact ⟨rfl, ⟨_, rfl⟩⟩)))
          refine wpQuiet_nil ?_
          rintro _ ⟨xq, rfl⟩
          have G2 : Hid (Below w.heap.size w (W xq)) := QB.out xq
          clear y0
          generalize W xq = wq at G2 ⊢
          go_wp2_with fail
          go_ret
          exact ⟨ret_bo HE.out.symm, G2.out⟩
        | true =>
          rw [h1] at HIN HS3
          clear h1 HN1
          by_cases hk0 : k = 0
          · subst hk0
            have HSS : Hid (Gd 4 ns (0 + 1)) := HS3.out rfl (fun i' y' e => by omega)
            clear d0
            simp only [Nat.add_zero] at y0
            refine Qc.region_class (W := W) (by kernel_rfl) (by kernel_rfl) (QI.out _ Qc.from_drew) ?_
            repeat (go_big_quiet_step (first | (go_at_call 44; refine (HIN.out _).mono ?_; rintro e w2 ⟨rfl, rfl⟩; exact ⟨rfl, ⟨_, rfl⟩⟩)))
            refine wpQuiet_nil ?_
            rintro _ ⟨xq, rfl⟩
            have G2 : Hid (Below w.heap.size w (W xq)) := QB.out xq
            clear y0
            generalize W xq = wq at G2 ⊢
            go_wp2_with fail
            exact ⟨⟨0 + 1, by omega, by go_num, ⟨HSS.out, G2.out⟩⟩, by simp [intOf]; omega⟩
          · obtain ⟨j, rfl⟩ : ∃ j, k = j + 1 := ⟨k - 1, by omega⟩
            obtain ⟨y, hy⟩ := Rg.get_at (show j < ns.length by omega)
            obtain ⟨b', off', ea, d1⟩ := HPV.out j y rfl hy
            cases ea
            have HN2' : Hid (x ≤ y → rnB 4 ns = false) := fun hh => HN2.out j y rfl hy hh
            have HS3' : Hid (y < x → Gd 4 ns (j + 1 + 1)) := fun h1 => HS3.out rfl (fun i' y' e hy' => by
              have : i' = j := by omega
              subst this
              rw [hy] at hy'
              cases hy'
              exact h1)
            have y1 := Qc.cell_all QO.out d1
            clear HPV d0 d1 hy HN2 HS3
            have q1 : (0 : Int) < (j : Int) + 1 := by omega
            have q2 : (j : Int) + 1 < (ns.length : Int) := by omega
            have q3 : (j : Int) < (ns.length : Int) := by omega
            by_cases hpf : x ≤ y
            · have HE : Hid (rnB 4 ns = false) := HN2'.out hpf
              have hpe : decide (x ≤ y) = true := decide_eq_true hpf
              refine Qc.region_class (W := W) (by kernel_rfl) (by kernel_rfl) (QI.out _ Qc.from_drew) ?_
              repeat (go_big_quiet_step (first | (go_at_call 44; refine (HIN.out _).mono ?_; rintro e w2 ⟨rfl, rfl⟩; exact ⟨rfl, ⟨_, rfl⟩⟩)))
              refine wpQuiet_nil ?_
              rintro _ ⟨xq, rfl⟩
              have G2 : Hid (Below w.heap.size w (W xq)) := QB.out xq
              clear y0 y1
              generalize W xq = wq at G2 ⊢
              go_wp2_with fail
              go_ret
              exact ⟨ret_bo HE.out.symm, G2.out⟩
            · have hpe : decide (x ≤ y) = false := decide_eq_false hpf
              have HSS : Hid (Gd 4 ns (j + 1 + 1)) := HS3'.out (by omega)
              refine Qc.region_class (W := W) (by kernel_rfl) (by kernel_rfl) (QI.out _ Qc.from_drew) ?_
              repeat (go_big_quiet_step (first | (go_at_call 44; refine (HIN.out _).mono ?_; rintro e w2 ⟨rfl, rfl⟩; exact ⟨rfl, ⟨_, rfl⟩⟩)))
              refine wpQuiet_nil ?_
              rintro _ ⟨xq, rfl⟩
              have G2 : Hid (Below w.heap.size w (W xq)) := QB.out xq
              clear y0 y1
              generalize W xq = wq at G2 ⊢
              go_wp2_with fail
              exact ⟨⟨j + 1 + 1, by omega, by go_num, ⟨HSS.out, G2.out⟩⟩, by simp [intOf]; omega⟩
      · obtain rfl : k = ns.length := by omega
        have HE : Hid (rnB 4 ns = true) := HZ.out.1.all
        go_wp2_with fail
        go_ret
        exact ⟨ret_bo HE.out.symm, HZ.out.2⟩
  · rw [decide_eq_false hq, Bool.and_false]
    go_enter Tryz.func40, Tryz.ntmps40
    go_wp2_with fail
    go_ret
    exact ⟨rfl, Below.refl _ _⟩
set_option maxRecDepth 100000 in
set_option maxHeartbeats 1600000 in
theorem l12From_7 (v : Value) (ns : List Int) (w : World) (h : RowI w v ns) (hl : ns.length ≤ 1048576) :
    Calls Tryz.prog 40 #[.int .i64 7, v] w fun e w' => e = .returned (.bool (rnB 7 ns && decide ((ns.length : Int) = 3))) ∧ Below w.heap.size w w' := by
  have HR : Hid (∀ W, Below w.heap.size w W → RowJ W v ns) := fun W hW => (RowJ.of_row h).below hW
  obtain ⟨a, cap, rfl, _⟩ := h
  by_cases hq : (ns.length : Int) = 3
  · rw [decide_eq_true hq, Bool.and_true]
    go_enter Tryz.func40, Tryz.ntmps40
    go_upto_region 3 with fail
    clear hq
    go_wp2_with fail
    go_loopw [5] (fun i wr => ∃ k : Nat, k ≤ ns.length ∧ i = .int .i64 k ∧ Hid (Gd 7 ns k ∧ Below w.heap.size w wr)) (fun i _ => ns.length - (intOf i).toNat)
    case atStart => exact ⟨0, by omega, rfl, Gd.zero _ _, Below.refl _ _⟩
    case round =>
      obtain ⟨k, hk, rfl, HZ⟩ := hrel
      by_cases hlt : k < ns.length
      · obtain ⟨x, hx⟩ := Rg.get_at hlt
        have rr := HR.out _ HZ.out.2
        have HPV : Hid (∀ i y, k = i + 1 → ns[i]? = some y → ∃ b off, a = some ⟨b, off, none⟩ ∧ wr.cell? ⟨b, off + i, none⟩ = some (.int .i64 y)) := fun i y _ hy => by
          obtain ⟨b, off, ea, _, hc⟩ := rr.at hy
          exact ⟨b, off, ea, hc⟩
        obtain ⟨b, off, rfl, hbl, d0⟩ := rr.at hx
        clear rr
        have HIN : Hid (∀ W, Calls Tryz.prog 44 #[.int .i64 x, .int .i64 0, .int .i64 6] W fun e w' => e = .returned (.bool (isV 7 x)) ∧ W = w') := fun W => Qm.l01In_any x 0 6 W
        have HN1 : Hid (isV 7 x = false → rnB 7 ns = false) := fun hh => gd_no1 hx hh
        have HN2 : Hid (∀ i y, k = i + 1 → ns[i]? = some y → x ≤ y → rnB 7 ns = false) := fun i y e hy hle => by subst e; exact gd_no2 hy hx hle
        have HS3 : Hid (isV 7 x = true → (∀ i y, k = i + 1 → ns[i]? = some y → y < x) → Gd 7 ns (k + 1)) := fun h1 h2 => HZ.out.1.succ hx h1 h2
        clear hx
        have hkI : (k : Int) < (ns.length : Int) := by omega
        go_upto_region 6 with fail
        obtain ⟨X, hX, W, QI0, QO0⟩ := Qc.klass wr
        have QI : Hid (∀ w', Below wr.heap.size wr w' → ∃ x, w' = W x) := QI0
        have QO : Hid (∀ x, Below wr.heap.size wr (W x)) := QO0
        clear QI0 QO0
        have QB : Hid (∀ x, Below w.heap.size w (W x)) := fun x => HZ.out.2.trans ((QO.out x).mono HZ.out.2.size)
        have y0 := Qc.cell_all QO.out d0
        cases h1 : isV 7 x with
        | false =>
          have HE : Hid (rnB 7 ns = false) := HN1.out h1
          rw [h1] at HIN
          clear h1 HN1 HN2 HS3 d0
          refine Qc.region_class (W := W) (by kernel_rfl) (by kernel_rfl) (QI.out _ Qc.from_drew) ?_
          repeat (go_big_quiet_step (first | (go_at_call 44; refine (HIN.out _).mono ?_; rintro e w2 ⟨rfl, rfl⟩; exact ⟨rfl, ⟨_, rfl⟩⟩)))
          refine wpQuiet_nil ?_
          rintro _ ⟨xq, rfl⟩
          have G2 : Hid (Below w.heap.size w (W xq)) := QB.out xq
          clear y0
          generalize W xq = wq at G2 ⊢
          go_wp2_with fail
          go_ret
          exact ⟨ret_bo HE.out.symm, G2.out⟩
        | true =>
          rw [h1] at HIN HS3
          clear h1 HN1
          by_cases hk0 : k = 0
          · subst hk0
            have HSS : Hid (Gd 7 ns (0 + 1)) := HS3.out rfl (fun i' y' e => by omega)
            clear d0
            simp only [Nat.add_zero] at y0
            refine Qc.region_class (W := W) (by kernel_rfl) (by kernel_rfl) (QI.out _ Qc.from_drew) ?_
            repeat (go_big_quiet_step (first | (go_at_call 44; refine (HIN.out _).mono ?_; rintro e w2 ⟨rfl, rfl⟩; exact ⟨rfl, ⟨_, rfl⟩⟩)))
            refine wpQuiet_nil ?_
            rintro _ ⟨xq, rfl⟩
            have G2 : Hid (Below w.heap.size w (W xq)) := QB.out xq
            clear y0
            generalize W xq = wq at G2 ⊢
            go_wp2_with fail
            exact ⟨⟨0 + 1, by omega, by go_num, ⟨HSS.out, G2.out⟩⟩, by simp [intOf]; omega⟩
          · obtain ⟨j, rfl⟩ : ∃ j, k = j + 1 := ⟨k - 1, by omega⟩
            obtain ⟨y, hy⟩ := Rg.get_at (show j < ns.length by omega)
            obtain ⟨b', off', ea, d1⟩ := HPV.out j y rfl hy
            cases ea
            have HN2' : Hid (x ≤ y → rnB 7 ns = false) := fun hh => HN2.out j y rfl hy hh
            have HS3' : Hid (y < x → Gd 7 ns (j + 1 + 1)) := fun h1 => HS3.out rfl (fun i' y' e hy' => by
              have : i' = j := by omega
              subst this
              rw [hy] at hy'
              cases hy'
              exact h1)
            have y1 := Qc.cell_all QO.out d1
            clear HPV d0 d1 hy HN2 HS3
            have q1 : (0 : Int) < (j : Int) + 1 := by omega
            have q2 : (j : Int) + 1 < (ns.length : Int) := by omega
            have q3 : (j : Int) < (ns.length : Int) := by omega
            by_cases hpf : x ≤ y
            · have HE : Hid (rnB 7 ns = false) := HN2'.out hpf
              have hpe : decide (x ≤ y) = true := decide_eq_true hpf
              refine Qc.region_class (W := W) (by kernel_rfl) (by kernel_rfl) (QI.out _ Qc.from_drew) ?_
              repeat (go_big_quiet_step (first | (go_at_call 44; refine (HIN.out _).mono ?_; rintro e w2 ⟨rfl, rfl⟩; exact ⟨rfl, ⟨_, rfl⟩⟩)))
              refine wpQuiet_nil ?_
              rintro _ ⟨xq, rfl⟩
              have G2 : Hid (Below w.heap.size w (W xq)) := QB.out xq
              clear y0 y1
              generalize W xq = wq at G2 ⊢
              go_wp2_with fail
              go_ret
              exact ⟨ret_bo HE.out.symm, G2.out⟩
            · have hpe : decide (x ≤ y) = false := decide_eq_false hpf
              have HSS : Hid (Gd 7 ns (j + 1 + 1)) := HS3'.out (by omega)
              refine Qc.region_class (W := W) (by kernel_rfl) (by kernel_rfl) (QI.out _ Qc.from_drew) ?_
              repeat (go_big_quiet_step (first | (go_at_call 44; refine (HIN.out _).mono ?_; rintro e w2 ⟨rfl, rfl⟩; exact ⟨rfl, ⟨_, rfl⟩⟩)))
              refine wpQuiet_nil ?_
              rintro _ ⟨xq, rfl⟩
              have G2 : Hid (Below w.heap.size w (W xq)) := QB.out xq
              clear y0 y1
              generalize W xq = wq at G2 ⊢
              go_wp2_with fail
              exact ⟨⟨j + 1 + 1, by omega, by go_num, ⟨HSS.out, G2.out⟩⟩, by simp [intOf]; omega⟩
      · obtain rfl : k = ns.length := by omega
        have HE : Hid (rnB 7 ns = true) := HZ.out.1.all
        go_wp2_with fail
        go_ret
        exact ⟨ret_bo HE.out.symm, HZ.out.2⟩
  · rw [decide_eq_false hq, Bool.and_false]
    go_enter Tryz.func40, Tryz.ntmps40
    go_wp2_with fail
    go_ret
    exact ⟨rfl, Below.refl _ _⟩
theorem cf_bool {n m : Int} {ns : List Int} (h : fCode n = 0) (hf : fOut n + 1 = m) : (rnB n ns && decide ((ns.length : Int) = m)) = decide (cfC n ns = 0) := by
  unfold cfC
  rw [if_pos h, hf]
  cases rnB n ns
  · simp
  · by_cases e : (ns.length : Int) = m <;> simp [e]
theorem l12From_any (n : Int) (v : Value) (ns : List Int) (w : World) (h : RowI w v ns) (hl : ns.length ≤ 1048576) (hn : fCode n = 0) :
    Calls Tryz.prog 40 #[.int .i64 n, v] w fun e w' => e = .returned (.bool (decide (cfC n ns = 0))) ∧ Below w.heap.size w w' := by
  have h3 : n = 1 ∨ n = 4 ∨ n = 7 := by
    unfold fCode at hn
    split at hn
    · assumption
    · cases hn
  rcases h3 with rfl | rfl | rfl
  · rw [← cf_bool (m := 1) hn rfl]; exact l12From_1 v ns w h hl
  · rw [← cf_bool (m := 2) hn rfl]; exact l12From_4 v ns w h hl
  · rw [← cf_bool (m := 3) hn rfl]; exact l12From_7 v ns w h hl
end Go.Proofs.YtiflfcpoajijaaaGreatDoor.Kc
