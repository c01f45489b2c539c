/- Texts put together: Qm, Is, Xb, Xcr, Xc, Hs. -/
import Derived.Test.YtnebohdlndiejaaGreatDoorTm
import Derived.Test.YtnebohdlndiejaaGreatDoorSl
import Derived.OpenShut
import Derived.WalkKit
import Derived.ProofKit
import Derived.ShutString
import Derived.Deep.Fields
import Derived.Test.YtnebohdlndiejaaGreatDoorRg
import Derived.Lib.BitFns
import Derived.Lib.Strings
import Derived.Lib.Slices
import Derived.Lib.Small
import Derived.Lib.Walk
import Derived.Maps.AppendAt
import Derived.Test.YtnebohdlndiejaaGreatDoorGt
import Derived.Test.YtnebohdlndiejaaGreatDoorRm
import Derived.Deep.RegionHeldLaw
import Derived.Deep.Cut
/- QuorumOf and PrimaryOf, of the program and of the specification. -/
namespace Go.Proofs.YtnebohdlndiejaaGreatDoor.Qm
open Go.RowKit Go.Proofs.YtnebohdlndiejaaGreatDoor.Tm

/-- What QuorumOf and PrimaryOf answer. -/
def qOut (n : Int) : Int := if n = 1 then 1 else if n = 4 then 3 else if n = 7 then 5 else 0
def pOut (v n : Int) : Int := if fCode n = 0 ∧ 0 ≤ v ∧ v ≤ 20 then v % n else 0
def pCode (v n : Int) : Int := if fCode n = 0 ∧ 0 ≤ v ∧ v ≤ 20 then 0 else 4
def inB (x a b : Int) : Bool := decide (a ≤ x ∧ x ≤ b)
theorem ret_bool {a b : Bool} (h : a = b) : Ending.returned (.bool a) = .returned (.bool b) := by rw [h]
theorem within_any (x a b : Int) (w : World) :
    Calls Tryz.prog 66 #[.int .i64 x, .int .i64 a, .int .i64 b] w fun e w' => e = .returned (.bool (inB x a b)) ∧ w = w' := by
  by_cases h1 : a ≤ x
  · by_cases h2 : x ≤ b
    all_goals
      go_enter Tryz.func66, Tryz.ntmps66
      go_wp2
      go_ret
      exact ⟨ret_bool (by unfold inB; rw [Bool.eq_iff_iff]; simp; try omega), rfl⟩
  · go_enter Tryz.func66, Tryz.ntmps66
    go_wp2
    go_ret
    exact ⟨ret_bool (by unfold inB; rw [Bool.eq_iff_iff]; simp; try omega), rfl⟩
theorem l01In_any (x a b : Int) (w : World) :
    Calls Tryz.prog 29 #[.int .i64 x, .int .i64 a, .int .i64 b] w fun e w' => e = .returned (.bool (inB x a b)) ∧ w = w' := by
  by_cases h1 : a ≤ x
  · by_cases h2 : x ≤ b
    all_goals
      go_enter Tryz.func29, Tryz.ntmps29
      go_wp2
      go_ret
      exact ⟨ret_bool (by unfold inB; rw [Bool.eq_iff_iff]; simp; try omega), rfl⟩
  · go_enter Tryz.func29, Tryz.ntmps29
    go_wp2
    go_ret
    exact ⟨ret_bool (by unfold inB; rw [Bool.eq_iff_iff]; simp; try omega), rfl⟩
theorem q_none {n : Int} (h1 : n ≠ 1) (h2 : n ≠ 4) (h3 : n ≠ 7) : qOut n = 0 := by unfold qOut; rw [if_neg h1, if_neg h2, if_neg h3]
set_option maxRecDepth 100000 in
set_option maxHeartbeats 400000 in
theorem implQuorumOf_any (n : Int) (w : World) : Calls Tryz.prog 137 #[.int .i64 n] w fun e w' => e = .returned (.tuple #[.int .i64 (qOut n), .int .i64 (fCode n)]) ∧ w = w' := by
  rcases f_cases n with rfl | rfl | rfl | ⟨h1, h2, h3, e1, e2⟩
  · have C : Calls Tryz.prog 101 #[.int .i64 1] w fun e w' => e = .returned (.tuple #[.int .i64 0, .int .i64 0]) ∧ w' = w := implFaultsOf_any 1 w
    go_enter Tryz.func137, Tryz.ntmps137
    go_wp2_with fail
    refine C.mono ?_
    rintro e w1 ⟨rfl, rfl⟩
    go_wp2_with fail
    go_ret2
    exact ⟨ret_ii ⟨by decide, by decide⟩, rfl⟩
  · have C : Calls Tryz.prog 101 #[.int .i64 4] w fun e w' => e = .returned (.tuple #[.int .i64 1, .int .i64 0]) ∧ w' = w := implFaultsOf_any 4 w
    go_enter Tryz.func137, Tryz.ntmps137
    go_wp2_with fail
    refine C.mono ?_
    rintro e w1 ⟨rfl, rfl⟩
    go_wp2_with fail
    go_ret2
    exact ⟨ret_ii ⟨by decide, by decide⟩, rfl⟩
  · have C : Calls Tryz.prog 101 #[.int .i64 7] w fun e w' => e = .returned (.tuple #[.int .i64 2, .int .i64 0]) ∧ w' = w := implFaultsOf_any 7 w
    go_enter Tryz.func137, Tryz.ntmps137
    go_wp2_with fail
    refine C.mono ?_
    rintro e w1 ⟨rfl, rfl⟩
    go_wp2_with fail
    go_ret2
    exact ⟨ret_ii ⟨by decide, by decide⟩, rfl⟩
  · have C : Calls Tryz.prog 101 #[.int .i64 n] w fun e w' => e = .returned (.tuple #[.int .i64 0, .int .i64 4]) ∧ w' = w := by have := implFaultsOf_any n w; rwa [e1, e2] at this
    have HE : Hid (qOut n = 0 ∧ fCode n = 4) := ⟨q_none h1 h2 h3, e2⟩
    clear h1 h2 h3 e1 e2
    go_enter Tryz.func137, Tryz.ntmps137
    go_wp2_with fail
    refine C.mono ?_
    rintro e w1 ⟨rfl, rfl⟩
    go_wp2_with fail
    go_ret2
    exact ⟨ret_ii ⟨HE.out.1.symm, HE.out.2.symm⟩, rfl⟩
set_option maxRecDepth 100000 in
set_option maxHeartbeats 400000 in
theorem l04Nodes_any (n : Int) (w : World) : Calls Tryz.prog 28 #[.int .i64 n] w fun e w' => e = .returned (.bool (decide (fCode n = 0))) ∧ w = w' := by
  rcases f_cases n with rfl | rfl | rfl | ⟨h1, h2, h3, _, hc⟩
  · go_enter Tryz.func28, Tryz.ntmps28
    go_wp2_with fail
    go_ret
    exact ⟨rfl, rfl⟩
  · go_enter Tryz.func28, Tryz.ntmps28
    go_wp2_with fail
    go_ret
    exact ⟨rfl, rfl⟩
  · go_enter Tryz.func28, Tryz.ntmps28
    go_wp2_with fail
    go_ret
    exact ⟨rfl, rfl⟩
  · have HC : Hid (fCode n = 4) := hc
    clear hc
    go_enter Tryz.func28, Tryz.ntmps28
    go_wp2_with fail
    go_ret
    exact ⟨by rw [HC.out]; simp [h1, h2, h3], rfl⟩
set_option maxRecDepth 100000 in
set_option maxHeartbeats 400000 in
theorem l06Quorum_any (n : Int) (w : World) (h : fCode n = 0) : Calls Tryz.prog 31 #[.int .i64 n] w fun e w' => e = .returned (.int .i64 (qOut n)) ∧ w = w' := by
  rcases f_cases n with rfl | rfl | rfl | ⟨h1, h2, h3, _, hc⟩
  · go_enter Tryz.func31, Tryz.ntmps31
    go_wp2_with fail
    go_ret
    exact ⟨rfl, rfl⟩
  · go_enter Tryz.func31, Tryz.ntmps31
    go_wp2_with fail
    go_ret
    exact ⟨rfl, rfl⟩
  · go_enter Tryz.func31, Tryz.ntmps31
    go_wp2_with fail
    go_ret
    exact ⟨rfl, rfl⟩
  · rw [hc] at h; cases h
theorem p_none {v n : Int} (h : ¬ (fCode n = 0 ∧ 0 ≤ v ∧ v ≤ 20)) : pOut v n = 0 ∧ pCode v n = 4 := by unfold pOut pCode; rw [if_neg h, if_neg h]; exact ⟨rfl, rfl⟩
theorem p_some {v n : Int} (h : fCode n = 0 ∧ 0 ≤ v ∧ v ≤ 20) : pOut v n = v % n ∧ pCode v n = 0 := by unfold pOut pCode; rw [if_pos h, if_pos h]; exact ⟨rfl, rfl⟩
end Go.Proofs.YtnebohdlndiejaaGreatDoor.Qm

/- Integers in a slice: read, copied, compared. -/
namespace Go.Proofs.YtnebohdlndiejaaGreatDoor.Is
open Go.RowKit Go.Proofs.YtnebohdlndiejaaGreatDoor.Sl

/-- The slice v holds the integers xs (whatever room lies behind them). -/
def RowI (w : World) (v : Value) (xs : List Int) : Prop :=
  ∃ a cap, v = .slice a xs.length cap ∧ (xs = [] ∨ ∃ b off, a = some ⟨b, off, none⟩ ∧ xs.length ≤ cap ∧ b < w.heap.size ∧ ∀ i, i < xs.length → w.cell? ⟨b, off + i, none⟩ = some (.int .i64 (nth xs i))) ∧ ∀ x ∈ xs, -9223372036854775808 ≤ x ∧ x ≤ 9223372036854775807
theorem RowI.below {w w' : World} {v : Value} {xs : List Int} (h : RowI w v xs) (hb : Below w.heap.size w w') : RowI w' v xs := by
  obtain ⟨a, cap, rfl, h, hr⟩ := h
  refine ⟨a, cap, rfl, ?_, hr⟩
  rcases h with h | ⟨b, off, rfl, hc, hlt, h⟩
  · exact .inl h
  · exact .inr ⟨b, off, rfl, hc, Nat.lt_of_lt_of_le hlt hb.size, fun i hi => (hb.cell (p := ⟨b, off + i, none⟩) hlt).trans (h i hi)⟩
theorem info3 : (Tryz.prog.info? 3).map (fun i => (i.zero, i.size, i.bytes)) = some (some (.int .i64 0), 1, 8) := by kernel_rfl
theorem nth_at {xs : List Int} {i : Nat} (h : i < xs.length) : xs[i]? = some (nth xs i) := by
  unfold nth; rw [List.getD_eq_getElem?_getD, List.getElem?_eq_getElem h]; rfl
theorem nth_mem {xs : List Int} {i : Nat} (h : i < xs.length) : nth xs i ∈ xs := List.mem_of_getElem? (nth_at h)
/-- Integers in a slice of the call's own that may have room behind. -/
def OwnI (w : World) (B : Nat) (v : Value) (xs : List Int) : Prop := w.ownsRow B 3 1 v xs.length (xs.map (Value.int .i64))
theorem OwnI.row {w : World} {B : Nat} {v : Value} {xs : List Int} (h : OwnI w B v xs) (hr : ∀ x ∈ xs, -9223372036854775808 ≤ x ∧ x ≤ 9223372036854775807) : RowI w v xs := by
  obtain ⟨hl, h⟩ := h
  rcases h with ⟨rfl, h0⟩ | ⟨g, cap, cur, rfl, hB, hg, hc, _, hs, htk⟩
  · exact ⟨none, 0, by rw [h0], .inl (List.length_eq_zero_iff.1 h0), hr⟩
  · refine ⟨_, cap, rfl, .inr ⟨g, 0, rfl, hc, (Array.getElem?_eq_some_iff.1 hg).1, fun i hi => ?_⟩, hr⟩
    have h1 : (cur.toList.take (xs.length * 1))[i]? = some (.int .i64 (nth xs i)) := by
      rw [htk, List.getElem?_map, nth_at hi]; rfl
    rw [List.getElem?_take] at h1
    split at h1
    · simp only [World.cell?, hg, Nat.zero_add]
      simpa using h1
    · cases h1

/-- The copy: its first k cells are written. -/
def Copied (xs : List Int) (k : Nat) (A : Array Value) : Prop := A.size = xs.length ∧ ∀ j, j < k → A[j]? = some (.int .i64 (nth xs j))

set_option maxHeartbeats 400000 in
theorem toIntS_any (v : Value) (xs : List Int) (w : World) (h : RowI w v xs) (hl : xs.length ≤ 1048576) :
    Calls Tryz.prog 8 #[v] w fun e w' => ∃ v', e = .returned v' ∧ RowI w' v' xs ∧ Below w.heap.size w w' := by
  obtain ⟨a, cap, rfl, h, hr⟩ := h
  obtain ⟨i0, hi, hz0, hz1, hz2⟩ := info_parts info3
  have hmk := run_make (P := Tryz.prog) w 26 3 i0 (.int .i64 0) Tryz.underlying26 hi hz0 .i64 .i64 (xs.length : Int) (xs.length : Int) (by omega) (by omega) (by rw [hz2]; omega) (by omega)
  have hA0 : Copied xs 0 (madeCells (Value.int .i64 0).cells ((xs.length : Int).toNat * i0.size)) := ⟨by rw [hz1]; simp [madeCells, Value.cells], fun j hj => absurd hj (by omega)⟩
  generalize madeCells (Value.int .i64 0).cells ((xs.length : Int).toNat * i0.size) = A0 at hmk hA0
  rw [Int.toNat_natCast] at hmk
  go_enter Tryz.func8, Tryz.ntmps8
  go_wp2_with fail
  clear hmk
  go_loopw [4] (fun i wr => ∃ k : Nat, ∃ A : Array Value, k ≤ xs.length ∧ i = .int .i64 k ∧ wr = w.alloc (.cells A 3) ∧ Copied xs k A) (fun i _ => xs.length - (intOf i).toNat)
  case atStart => exact ⟨0, A0, by omega, rfl, rfl, hA0⟩
  case round =>
    clear hA0
    obtain ⟨k, A, hk, rfl, rfl, hA⟩ := hrel
    by_cases hlt : k < xs.length
    · rcases h with h | ⟨b, off, rfl, hc, hb, hcell⟩
      · exact absurd hlt (by rw [h]; simp)
      have hc1 := hcell k hlt
      have hne : b ≠ w.heap.size := by omega
      obtain ⟨x, hx⟩ : ∃ x, A[k]? = some x := ⟨_, Array.getElem?_eq_getElem (by rw [hA.1]; exact hlt)⟩
      clear hcell
      have hA' : Copied xs (k + 1) (A.setIfInBounds k (.int .i64 (nth xs k))) := by
        refine ⟨by rw [Array.size_setIfInBounds]; exact hA.1, fun j hj => ?_⟩
        rw [Array.getElem?_setIfInBounds]
        by_cases e : k = j
        · subst e
          rw [if_pos rfl, if_pos (by rw [hA.1]; exact hlt)]
        · rw [if_neg e]
          exact hA.2 j (by omega)
      go_wp2
      go_roundw
      case rel => exact ⟨k + 1, _, by omega, by go_num, rfl, hA'⟩
      case measure => simp [intOf]; omega
    · obtain rfl : k = xs.length := by omega
      go_wp2
      go_ret
      refine ⟨_, rfl, ⟨_, _, rfl, .inr ⟨w.heap.size, 0, rfl, Nat.le_refl _, by simp, fun i hi => ?_⟩, hr⟩, (Below.refl _ _).alloc (Nat.le_refl _) _⟩
      rw [Nat.zero_add, World.cell?_alloc_at _ _ _ _ rfl]
      exact hA.2 i hi

set_option maxHeartbeats 400000 in
theorem eqIntS_same (v u : Value) (xs : List Int) (w : World) (h : RowI w v xs) (g : RowI w u xs) (hl : xs.length ≤ 1048576) :
    Calls Tryz.prog 12 #[v, u] w fun e w' => e = .returned (.bool true) ∧ Below w.heap.size w w' := by
  obtain ⟨a, cap, rfl, h, hr⟩ := h
  obtain ⟨a', cap', rfl, g, _⟩ := g
  have hne : ((xs.length : Int) != (xs.length : Int)) = false := by simp
  go_enter Tryz.func12, Tryz.ntmps12
  go_wp2_with fail
  go_loopw [5] (fun i wr => ∃ k : Nat, k ≤ xs.length ∧ i = .int .i64 k ∧ ∃ n, wr = w.drewN n) (fun i _ => xs.length - (intOf i).toNat)
  case atStart => exact ⟨0, by omega, rfl, 0, rfl⟩
  case round =>
    obtain ⟨k, hk, rfl, n, rfl⟩ := hrel
    by_cases hlt : k < xs.length
    · rcases h with h | ⟨b, off, rfl, hc, hb, hcell⟩
      · exact absurd hlt (by rw [h]; simp)
      rcases g with g | ⟨b', off', rfl, hc', hb', gcell⟩
      · exact absurd hlt (by rw [g]; simp)
      have hc1 := hcell k hlt
      have hc2 := gcell k hlt
      have hp0 : (0 : Int) ≤ (k : Int) := by omega
      have hp1 : (k : Int) < (xs.length : Int) := by omega
      clear hcell gcell
      go_wp2
      go_quiet (fail)
      go_wp2
      exact ⟨⟨k + 1, by omega, by go_num, n + nq, rfl⟩, by simp [intOf]; omega⟩
    · go_wp2
      go_ret
      exact ⟨rfl, ⟨rfl, rfl, rfl, Nat.le_refl _, fun _ _ => rfl⟩⟩
end Go.Proofs.YtnebohdlndiejaaGreatDoor.Is
namespace Go.Proofs.YtnebohdlndiejaaGreatDoor.Op
open Go.ChangeShapes Go.WideShapes Go.ChangeAt Go.RowKit Go.Deep
set_option maxRecDepth 100000 in
theorem open_ints {H : Type} {enc : TypeId × Value → H} {w : World} {base : Nat} {spare : Nat → Bool} {r : Reach} {b0 : Nat} {v : Value} {d : DataW H} {p : List MemPlace}
    (hv : Value.okWide Tryz.prog w r b0 26 v) (h : DataW.Trod enc Tryz.prog w base spare true 26 v d p) (hs : ∀ b, spare b = true) :
    ∃ xs : List Int, Is.RowI w v xs := by
  obtain ⟨a0, len0, cap0, rfl⟩ := okWide_slice Tryz.underlying26 hv
  obtain ⟨fuel, hf⟩ := h
  have hsp : spare = fun _ => true := funext hs
  subst hsp
  rcases Go.ChangeShapes.open_ints Tryz.underlying26 Tryz.underlying3 (by kernel_rfl) hf with ⟨hcs, _⟩ | ⟨x, l, c, zs, hcs, _, hl, hm, hz, _, hcell, hwz⟩
  · simp [Value.cells] at hcs
    obtain ⟨rfl, rfl, rfl⟩ := hcs
    exact ⟨[], none, 0, rfl, .inl rfl, fun _ hx => by cases hx⟩
  · simp [Value.cells] at hcs
    obtain ⟨rfl, rfl, rfl⟩ := hcs
    have hz' : zs.length = cap0 := by simpa using hz
    have hlen : (zs.take len0).length = len0 := by rw [List.length_take]; omega
    refine ⟨zs.take len0, some x, cap0, by rw [hlen], ?_, ?_⟩
    · by_cases h0 : len0 = 0
      · exact .inl (by rw [h0]; rfl)
      · obtain ⟨b, off, spot⟩ := x
        have hc := hcell 0 (by omega)
        have hspot : spot = none := by simpa [Addr.add] using World.cell?_spot hc
        subst hspot
        have hc0 : w.cell? ⟨b, off, none⟩ = some (.int .i64 (zs.getD 0 0)) := by simpa [Addr.add] using hc
        refine .inr ⟨b, off, rfl, by omega, World.block_lt_of_cell? w _ hc0, fun i hi => ?_⟩
        have h1 := hcell i (by omega)
        have h2 : (⟨b, off, none⟩ : Addr).add i = ⟨b, off + i, none⟩ := by unfold Addr.add; split <;> simp_all
        rw [h2] at h1
        rw [h1]
        unfold Sl.nth
        rw [List.getD_eq_getElem?_getD, List.getD_eq_getElem?_getD, List.getElem?_take_of_lt (by omega)]
    · intro n hn
      have := hwz n (List.mem_of_mem_take hn)
      simpa [Lit.wf, IntKind.min, IntKind.max, IntKind.signed, IntKind.bits] using this
end Go.Proofs.YtnebohdlndiejaaGreatDoor.Op

/- Nodes that rise: a quorum of them. -/
namespace Go.Proofs.YtnebohdlndiejaaGreatDoor.Xq
open Go.RowKit Go.Proofs.YtnebohdlndiejaaGreatDoor.Tm
open Go.Proofs.YtnebohdlndiejaaGreatDoor.Qm (qOut inB)

noncomputable def bOf (p : Prop) : Bool := @decide p (Classical.propDecidable p)
theorem bOf_true {p : Prop} (h : p) : bOf p = true := by unfold bOf; simp [h]
theorem bOf_false {p : Prop} (h : ¬ p) : bOf p = false := by unfold bOf; simp [h]
theorem bOf_iff {p : Prop} : bOf p = true ↔ p := by unfold bOf; simp
theorem bOf_eq {p : Prop} {b : Bool} (h : b = true ↔ p) : b = bOf p := by
  cases b with
  | true => exact (bOf_true (h.1 rfl)).symm
  | false => exact (bOf_false (fun hp => by have := h.2 hp; cases this)).symm
/-- A number is one of n nodes. -/
def okN (id n : Int) : Bool := decide (fCode n = 0) && inB id 0 (n - 1)
def isV (n x : Int) : Bool := okN x n
def frn (x : Int) : Nat := x.toNat
theorem f_small {n : Int} (h : fCode n = 0) : 1 ≤ n ∧ n ≤ 7 := by
  rcases f_cases n with rfl | rfl | rfl | ⟨_, _, _, _, hd⟩
  · decide
  · decide
  · decide
  · rw [hd] at h; cases h
theorem f_four {n : Int} (h : ¬ fCode n = 0) : fCode n = 4 := by
  rcases f_cases n with rfl | rfl | rfl | ⟨_, _, _, _, hd⟩
  · exact absurd rfl h
  · exact absurd rfl h
  · exact absurd rfl h
  · exact hd
theorem okN_iff {n x : Int} : okN x n = true ↔ fCode n = 0 ∧ 0 ≤ x ∧ x ≤ n - 1 := by
  unfold okN inB; simp
theorem isV_frn {n : Int} {x : Int} (h : isV n x = true) : x = (frn x : Int) ∧ frn x < 7 := by
  obtain ⟨h1, h2, h3⟩ := okN_iff.1 h
  have := f_small h1
  unfold frn
  omega
/-- The set of the first k, as bits. -/
def msk (ms : List Int) : Nat → Nat
  | 0 => 0
  | k + 1 => msk ms k ||| 2 ^ frn (ms.getD k default)
theorem msk_step {ms : List Int} {k : Nat} {x : Int} (h : ms[k]? = some x) : msk ms (k + 1) = msk ms k ||| 2 ^ frn x := by
  show msk ms k ||| 2 ^ frn (ms.getD k default) = _
  rw [List.getD_eq_getElem?_getD, h]; rfl
theorem or_add {h i : Nat} (hh : h < 2 ^ i) : h ||| 2 ^ i = 2 ^ i + h := by
  have := Nat.two_pow_add_eq_or_of_lt hh 1
  simp at this
  rw [this, Nat.or_comm]
theorem pop_step : ∀ h : Fin 128, ∀ i : Fin 7, h.val < 2 ^ i.val → Lib.onesCount (h.val ||| 2 ^ i.val) = Lib.onesCount h.val + 1 := by decide +kernel
theorem pop_zero : Lib.onesCount 0 = 0 := by decide +kernel
/-- The first k are votes, each behind all those ahead of it. -/
def GoodTo (n : Int) (ms : List Int) (k : Nat) : Prop := ∀ j x, j < k → ms[j]? = some x → isV n x = true ∧ msk ms j < 2 ^ frn x
def Rise (ms : List Int) (k : Nat) : Prop := ∀ j x y, j + 1 < k → ms[j]? = some x → ms[j + 1]? = some y → x < y
theorem GoodTo.zero (n : Int) (ms : List Int) : GoodTo n ms 0 := fun j x h => by omega
theorem GoodTo.succ {n : Int} {ms : List Int} {k : Nat} {x : Int} (h : GoodTo n ms k) (hx : ms[k]? = some x) (h1 : isV n x = true) (h2 : msk ms k < 2 ^ frn x) : GoodTo n ms (k + 1) := fun j y hj hy => by
  by_cases e : j = k
  · subst e; rw [hx] at hy; cases hy; exact ⟨h1, h2⟩
  · exact h j y (by omega) hy
theorem GoodTo.less {n : Int} {ms : List Int} {k m : Nat} (h : GoodTo n ms k) (hm : m ≤ k) : GoodTo n ms m := fun j y hj hy => h j y (by omega) hy
theorem pow_le7 {i : Nat} (h : i < 7) : 2 ^ i + 2 ^ i ≤ 128 := by
  have : ∀ i : Fin 7, 2 ^ i.val + 2 ^ i.val ≤ 128 := by decide
  exact this ⟨i, h⟩
theorem good_msk {n : Int} {ms : List Int} : ∀ {k : Nat}, GoodTo n ms k → k ≤ ms.length → msk ms k < 128 ∧ Lib.onesCount (msk ms k) = k ∧ ∀ i, i ≤ 7 → ((∀ j x, j < k → ms[j]? = some x → frn x < i) ↔ msk ms k < 2 ^ i)
  | 0, _, _ => ⟨by show (0 : Nat) < 128; decide, pop_zero, fun i _ => ⟨fun _ => Nat.two_pow_pos i, fun _ j x h => by omega⟩⟩
  | k + 1, h, hk => by
    obtain ⟨x, hx⟩ := Rg.get_at (show k < ms.length by omega)
    obtain ⟨h1, h2, h3⟩ := good_msk (h.less (Nat.le_succ k)) (by omega)
    obtain ⟨g1, g2⟩ := h k x (by omega) hx
    obtain ⟨_, g3⟩ := isV_frn g1
    rw [msk_step hx]
    have e := or_add g2
    have p := pow_le7 g3
    refine ⟨by omega, ?_, fun i hi => ?_⟩
    · have := pop_step ⟨msk ms k, h1⟩ ⟨frn x, g3⟩ g2
      simp only at this
      rw [this, h2]
    · rw [e]
      constructor
      · intro hh
        have hf := hh k x (by omega) hx
        have : 2 ^ (frn x + 1) ≤ 2 ^ i := Nat.pow_le_pow_right (by decide) hf
        rw [Nat.pow_succ] at this
        omega
      · intro hh j y hj hy
        have hfi : frn x < i := by
          refine Nat.lt_of_not_le fun hle => ?_
          have : 2 ^ i ≤ 2 ^ frn x := Nat.pow_le_pow_right (by decide) hle
          omega
        by_cases ej : j = k
        · subst ej; rw [hx] at hy; cases hy; exact hfi
        · exact Nat.lt_trans ((h3 (frn x) (by omega)).2 g2 j y (by omega) hy) hfi
theorem good_all {n : Int} {ms : List Int} : ∀ {k : Nat}, k ≤ ms.length → (GoodTo n ms k ↔ (∀ j x, j < k → ms[j]? = some x → isV n x = true) ∧ Rise ms k)
  | 0, _ => ⟨fun _ => ⟨fun j x h => by omega, fun j x y h => by omega⟩, fun _ => GoodTo.zero n ms⟩
  | k + 1, hk => by
    obtain ⟨x, hx⟩ := Rg.get_at (show k < ms.length by omega)
    have ih := good_all (n := n) (ms := ms) (show k ≤ ms.length by omega)
    constructor
    · intro h
      obtain ⟨a1, a2⟩ := ih.1 (h.less (Nat.le_succ k))
      refine ⟨fun j y hj hy => (h j y hj hy).1, fun j y z hj hy hz => ?_⟩
      by_cases ej : j + 1 = k
      · subst ej
        rw [hx] at hz; cases hz
        obtain ⟨g1, g2⟩ := h (j + 1) x (by omega) hx
        have g0 := (h j y (by omega) hy).1
        have := ((good_msk (h.less (Nat.le_succ (j + 1))) (by omega)).2.2 (frn x) (by have := (isV_frn g1).2; omega)).2 g2 j y (by omega) hy
        rw [(isV_frn g0).1, (isV_frn g1).1]
        omega
      · exact a2 j y z (by omega) hy hz
    · rintro ⟨a1, a2⟩
      have h := ih.2 ⟨fun j y hj hy => a1 j y (by omega) hy, fun j y z hj hy hz => a2 j y z (by omega) hy hz⟩
      refine h.succ hx (a1 k x (by omega) hx) ?_
      obtain ⟨_, _, h3⟩ := good_msk h (by omega)
      have g1 := a1 k x (by omega) hx
      refine (h3 (frn x) (by have := (isV_frn g1).2; omega)).1 fun j y hj hy => ?_
      by_cases ek : k = 0
      · omega
      obtain ⟨m, rfl⟩ : ∃ m, k = m + 1 := ⟨k - 1, by omega⟩
      obtain ⟨z, hz⟩ := Rg.get_at (show m < ms.length by omega)
      have hzx := a2 m z x (by omega) hz hx
      have gz := a1 m z (by omega) hz
      have hzx' : frn z < frn x := by rw [(isV_frn gz).1, (isV_frn g1).1] at hzx; omega
      by_cases ej : j = m
      · subst ej; rw [hz] at hy; cases hy; exact hzx'
      · have hp := (h m z (by omega) hz).2
        have := ((good_msk (h.less (Nat.le_succ m)) (by omega)).2.2 (frn z) (by have := (isV_frn gz).2; omega)).2 hp j y (by omega) hy
        omega
/-- Just a quorum of votes of different nodes, rising. -/
noncomputable def qvB (n : Int) (ms : List Int) : Bool := bOf (GoodTo n ms ms.length) && (decide (fCode n = 0) && decide ((Lib.onesCount (msk ms ms.length) : Int) = qOut n))
theorem qv_not {n : Int} {ms : List Int} {k : Nat} {x : Int} (hx : ms[k]? = some x) (h : ¬ (isV n x = true ∧ msk ms k < 2 ^ frn x)) : qvB n ms = false := by
  unfold qvB
  rw [bOf_false (fun hg => h (hg k x (Rg.lt_at hx) hx))]; rfl
theorem qv_end {n : Int} {ms : List Int} (h : GoodTo n ms ms.length) : qvB n ms = (decide (fCode n = 0) && decide ((Lib.onesCount (msk ms ms.length) : Int) = qOut n)) := by
  unfold qvB; rw [bOf_true h]; rfl
theorem qv_iff {n : Int} {ms : List Int} : qvB n ms = true ↔ fCode n = 0 ∧ (ms.length : Int) = qOut n ∧ (∀ x ∈ ms, isV n x = true) ∧ Rise ms ms.length := by
  unfold qvB
  rw [Bool.and_eq_true, Bool.and_eq_true, bOf_iff, decide_eq_true_eq, decide_eq_true_eq]
  constructor
  · rintro ⟨h1, h2, h3⟩
    rw [(good_msk h1 (Nat.le_refl _)).2.1] at h3
    obtain ⟨a1, a2⟩ := (good_all (Nat.le_refl _)).1 h1
    refine ⟨h2, h3, fun x hx => ?_, a2⟩
    obtain ⟨j, hj, e⟩ := List.getElem_of_mem hx
    exact a1 j x hj (by rw [List.getElem?_eq_getElem hj, e])
  · rintro ⟨h1, h2, h3, h4⟩
    have hg : GoodTo n ms ms.length := (good_all (Nat.le_refl _)).2 ⟨fun j x hj hx => h3 x (List.mem_of_getElem? hx), h4⟩
    refine ⟨hg, h1, ?_⟩
    rw [(good_msk hg (Nat.le_refl _)).2.1]
    exact h2
theorem ret_b {a b : Bool} (h : a = b) : Ending.returned (.bool a) = .returned (.bool b) := by rw [h]
theorem ret_v {a b : Value} (h : a = b) : Ending.returned a = .returned b := by rw [h]
theorem ones_int (x : Int) (w : World) (h0 : 0 ≤ x) (h1 : x ≤ 255) : Calls Tryz.prog 138 #[.int .u8 x] w fun e w' => e = .returned (.int .i64 (Lib.onesCount x.toNat)) ∧ w' = w := by
  have e : wrap64 (Lib.pop8 x) = (Lib.onesCount x.toNat : Int) := by unfold wrap64; exact Lib.pop8_int x h0 h1
  rw [← e]
  clear e
  go_enter Tryz.func138, Tryz.ntmps138
  go_wp2
  go_ret
  exact ⟨rfl, rfl⟩
theorem ones_any (h : Nat) (w : World) (hh : h < 128) : Calls Tryz.prog 138 #[.int .u8 h] w fun e w' => e = .returned (.int .i64 (Lib.onesCount h)) ∧ w = w' :=
  (ones_int h w (by omega) (by omega)).mono fun e w' he => ⟨by rw [he.1, Int.toNat_natCast], he.2.symm⟩
theorem shr_lt : ∀ h : Fin 128, ∀ i : Fin 7, ((h.val / 2 ^ i.val == 0) = decide (h.val < 2 ^ i.val)) := by decide +kernel
set_option maxRecDepth 100000 in
theorem allBelow_any (h i : Nat) (w : World) (hh : h < 128) (hi : i < 7) : Calls Tryz.prog 135 #[.int .u8 h, .int .i64 i] w fun e w' => e = .returned (.bool (decide (h < 2 ^ i))) ∧ w = w' := by
  have hk : ∀ i : Nat, i < 7 → i = 0 ∨ i = 1 ∨ i = 2 ∨ i = 3 ∨ i = 4 ∨ i = 5 ∨ i = 6 := fun i h => by omega
  have hs := shr_lt ⟨h, hh⟩ ⟨i, hi⟩
  simp only at hs
  rw [← hs]
  clear hs
  rcases hk i hi with rfl | rfl | rfl | rfl | rfl | rfl | rfl
  all_goals
    go_enter Tryz.func135, Tryz.ntmps135
    go_wp2_with fail
    go_ret
    refine ⟨ret_b ?_, rfl⟩
    rw [Bool.eq_iff_iff, beq_iff_eq, beq_iff_eq]
    simp only [Nat.reducePow]
    omega
theorem with_or : ∀ h : Fin 128, ∀ i : Fin 7, bits .or .u8 (h.val : Int) ((2 ^ i.val : Nat) : Int) = ((h.val ||| 2 ^ i.val : Nat) : Int) := by decide +kernel
set_option maxRecDepth 100000 in
theorem with_any (h i : Nat) (w : World) (hh : h < 128) (hi : i < 7) : Calls Tryz.prog 136 #[.int .u8 h, .int .i64 i] w fun e w' => e = .returned (.int .u8 ((h ||| 2 ^ i : Nat) : Int)) ∧ w = w' := by
  have hk : ∀ i : Nat, i < 7 → i = 0 ∨ i = 1 ∨ i = 2 ∨ i = 3 ∨ i = 4 ∨ i = 5 ∨ i = 6 := fun i h => by omega
  rcases hk i hi with rfl | rfl | rfl | rfl | rfl | rfl | rfl
  all_goals
    go_enter Tryz.func136, Tryz.ntmps136
    go_wp2_with fail
    go_ret
    refine ⟨ret_v ?_, rfl⟩
    exact congrArg (Value.int .u8) (with_or ⟨h, hh⟩ ⟨_, hi⟩)
theorem isQuorum_any (h : Nat) (n : Int) (w : World) (hh : h < 128) : Calls Tryz.prog 107 #[.int .u8 h, .int .i64 n] w fun e w' => e = .returned (.bool (decide (fCode n = 0) && decide ((Lib.onesCount h : Int) = qOut n))) ∧ w = w' := by
  have HO := ones_any h w hh
  have HQ := Qm.implQuorumOf_any n w
  by_cases hf : fCode n = 0
  · rw [hf] at HQ ⊢
    generalize (Lib.onesCount h : Int) = oc at HO ⊢
    generalize qOut n = q at HQ ⊢
    go_enter Tryz.func107, Tryz.ntmps107
    go_wp2_with fail
    refine HQ.mono ?_
    rintro e w1 ⟨rfl, rfl⟩
    go_wp2_with fail
    refine HO.mono ?_
    rintro e w1 ⟨rfl, rfl⟩
    go_wp2_with fail
    go_ret
    exact ⟨ret_b (by rw [Bool.eq_iff_iff, beq_iff_eq, Bool.and_eq_true, decide_eq_true_eq, decide_eq_true_eq]; simp), rfl⟩
  · have hf' : (fCode n == 0) = false := by simp [hf]
    rw [decide_eq_false hf]
    generalize fCode n = fc at HQ hf hf'
    generalize qOut n = q at HQ
    go_enter Tryz.func107, Tryz.ntmps107
    go_wp2_with fail
    refine HQ.mono ?_
    rintro e w1 ⟨rfl, rfl⟩
    go_wp2_with fail
    go_ret
    exact ⟨ret_b (by simp), rfl⟩
set_option maxRecDepth 100000 in
set_option maxHeartbeats 1600000 in
theorem isNode_any (id n : Int) (w : World) : Calls Tryz.prog 134 #[.int .i64 n, .int .i64 id] w fun e w' => e = .returned (.bool (okN id n)) ∧ w = w' := by
  by_cases h : fCode n = 0
  · have hb := f_small h
    have HO : Hid (okN id n = inB id 0 (n - 1)) := by show _ = _; unfold okN; rw [decide_eq_true h]; rfl
    rw [HO.out]
    have HF := implFaultsOf_any n w
    rw [h] at HF
    clear h
    go_enter Tryz.func134, Tryz.ntmps134
    go_wp2_with fail
    refine HF.mono ?_
    rintro e w1 ⟨rfl, hw⟩
    rw [hw]
    clear hw
    go_wp2_with fail
    refine (Qm.within_any id 0 (n - 1) w).mono ?_
    rintro e w2 ⟨rfl, rfl⟩
    go_wp2_with fail
    go_ret
    exact ⟨by simp, rfl⟩
  · have HO : Hid (okN id n = false) := by show _ = _; unfold okN; rw [decide_eq_false h]; rfl
    rw [HO.out]
    have h4 : fCode n = 4 := f_four h
    have HF := implFaultsOf_any n w
    rw [h4] at HF
    clear h h4
    go_enter Tryz.func134, Tryz.ntmps134
    go_wp2_with fail
    refine HF.mono ?_
    rintro e w1 ⟨rfl, hw⟩
    rw [hw]
    clear hw
    go_wp2_with fail
    go_ret
    exact ⟨rfl, rfl⟩
end Go.Proofs.YtnebohdlndiejaaGreatDoor.Xq

/- Nodes that rise: the program's walk. -/
namespace Go.Proofs.YtnebohdlndiejaaGreatDoor.Xq
open Go.RowKit Go.Proofs.YtnebohdlndiejaaGreatDoor.Tm Go.Proofs.YtnebohdlndiejaaGreatDoor.Sl Go.Proofs.YtnebohdlndiejaaGreatDoor.Is
open Go.Proofs.YtnebohdlndiejaaGreatDoor.Qm (qOut inB)
open Go.Proofs.YtnebohdlndiejaaGreatDoor.Rg (RowG RowG.slice RowG.at lt_at mem_at blk_cell bel_new)

/-- The slice v holds the integers xs. -/
def RowJ (w : World) (v : Value) (xs : List Int) : Prop :=
  ∃ a cap, v = .slice a xs.length cap ∧ (xs = [] ∨ ∃ b off, a = some ⟨b, off, none⟩ ∧ xs.length ≤ cap ∧ b < w.heap.size ∧ ∀ i x, xs[i]? = some x → w.cell? ⟨b, off + i, none⟩ = some (.int .i64 x))
theorem RowJ.below {w w' : World} {v : Value} {xs : List Int} (h : RowJ w v xs) (hb : Below w.heap.size w w') : RowJ w' v xs := by
  obtain ⟨a, cap, rfl, h⟩ := h
  refine ⟨a, cap, rfl, ?_⟩
  rcases h with h | ⟨b, off, rfl, hc, hlt, h⟩
  · exact .inl h
  · exact .inr ⟨b, off, rfl, hc, Nat.lt_of_lt_of_le hlt hb.size, fun i x hi => (hb.cell (p := ⟨b, off + i, none⟩) hlt).trans (h i x hi)⟩
theorem RowJ.of_row {w : World} {v : Value} {xs : List Int} (h : RowI w v xs) : RowJ w v xs := by
  obtain ⟨a, cap, rfl, h, _⟩ := h
  refine ⟨a, cap, rfl, ?_⟩
  rcases h with h | ⟨b, off, rfl, hc, hlt, h⟩
  · exact .inl h
  · refine .inr ⟨b, off, rfl, hc, hlt, fun i x hi => ?_⟩
    have hl := lt_at hi
    have := h i hl
    rw [nth_at hl] at hi
    cases hi
    exact this
theorem RowJ.of_own {w : World} {B : Nat} {v : Value} {xs : List Int} (h : OwnI w B v xs) : RowJ w v xs := by
  obtain ⟨hl, h⟩ := h
  rcases h with ⟨rfl, h0⟩ | ⟨g, cap, cur, rfl, hB, hg, hc, _, hs, htk⟩
  · exact ⟨none, 0, by rw [h0], .inl (List.length_eq_zero_iff.1 h0)⟩
  · refine ⟨_, cap, rfl, .inr ⟨g, 0, rfl, hc, (Array.getElem?_eq_some_iff.1 hg).1, fun i x hi => ?_⟩⟩
    have h1 : (cur.toList.take (xs.length * 1))[i]? = some (.int .i64 x) := by
      rw [htk, List.getElem?_map, hi]; rfl
    rw [List.getElem?_take] at h1
    split at h1
    · simp only [World.cell?, hg, Nat.zero_add]
      simpa using h1
    · cases h1
theorem RowJ.at {w : World} {a : Option Addr} {l cap : Nat} {xs : List Int} {i : Nat} {x : Int} (h : RowJ w (.slice a l cap) xs) (hi : xs[i]? = some x) : ∃ b off, a = some ⟨b, off, none⟩ ∧ b < w.heap.size ∧ w.cell? ⟨b, off + i, none⟩ = some (.int .i64 x) := by
  obtain ⟨a', cap', e, h⟩ := h
  cases e
  rcases h with rfl | ⟨b, off, rfl, _, hlt, h⟩
  · simp at hi
  · exact ⟨b, off, rfl, hlt, h i x hi⟩
theorem ret_ub {a b : Int} {c d : Bool} (h : a = b ∧ c = d) : Ending.returned (.tuple #[.int .u8 a, .bool c]) = .returned (.tuple #[.int .u8 b, .bool d]) := by rw [h.1, h.2]
/-- What risingNodes answers. -/
noncomputable def rnB (n : Int) (ms : List Int) : Bool := bOf (GoodTo n ms ms.length)
noncomputable def rnM (n : Int) (ms : List Int) : Nat := if rnB n ms then msk ms ms.length else 0
theorem rn_not {n : Int} {ms : List Int} {k : Nat} {x : Int} (hx : ms[k]? = some x) (h : ¬ (isV n x = true ∧ msk ms k < 2 ^ frn x)) : rnM n ms = 0 ∧ rnB n ms = false := by
  have e : rnB n ms = false := bOf_false (fun hg => h (hg k x (Rg.lt_at hx) hx))
  exact ⟨by unfold rnM; rw [e]; rfl, e⟩
theorem rn_end {n : Int} {ms : List Int} (h : GoodTo n ms ms.length) : rnM n ms = msk ms ms.length ∧ rnB n ms = true := by
  have e : rnB n ms = true := bOf_true h
  exact ⟨by unfold rnM; rw [e]; rfl, e⟩
theorem rn_iff {n : Int} {ms : List Int} : rnB n ms = true ↔ (∀ x ∈ ms, isV n x = true) ∧ Rise ms ms.length := by
  unfold rnB
  rw [bOf_iff, good_all (Nat.le_refl _)]
  constructor
  · rintro ⟨a1, a2⟩
    refine ⟨fun x hx => ?_, a2⟩
    obtain ⟨j, hj, e⟩ := List.getElem_of_mem hx
    exact a1 j x hj (by rw [List.getElem?_eq_getElem hj, e])
  · rintro ⟨h3, h4⟩
    exact ⟨fun j x hj hx => h3 x (List.mem_of_getElem? hx), h4⟩
theorem rnM_lt {n : Int} {ms : List Int} : rnM n ms < 128 := by
  unfold rnM
  split
  · rename_i h; exact (good_msk (bOf_iff.1 h) (Nat.le_refl _)).1
  · decide
theorem qv_rn {n : Int} {ms : List Int} : qvB n ms = (rnB n ms && (decide (fCode n = 0) && decide ((Lib.onesCount (rnM n ms) : Int) = qOut n))) := by
  cases h : rnB n ms with
  | false =>
    have hb : bOf (GoodTo n ms ms.length) = false := h
    unfold qvB
    rw [hb, Bool.false_and, Bool.false_and]
  | true =>
    have hb : bOf (GoodTo n ms ms.length) = true := h
    have hm : rnM n ms = msk ms ms.length := by unfold rnM; rw [h]; rfl
    unfold qvB
    rw [hb, hm]
set_option maxRecDepth 100000 in
set_option maxHeartbeats 1600000 in
theorem risingNodes_any (n : Int) (v : Value) (fs : List Int) (w : World) (h : RowJ w v fs) (hl : fs.length ≤ 1048600) :
    Calls Tryz.prog 106 #[.int .i64 n, v] w fun e w' => e = .returned (.tuple #[.int .u8 (rnM n fs : Int), .bool (rnB n fs)]) ∧ w = w' := by
  have HR : Hid (RowJ w v fs) := h
  obtain ⟨a, cap, rfl, _⟩ := h
  go_enter Tryz.func106, Tryz.ntmps106
  go_wp2_with fail
  go_loopw [6, 11] (fun hd i wr => ∃ k : Nat, k ≤ fs.length ∧ hd = .int .u8 (msk fs k : Int) ∧ i = .int .i64 k ∧ Hid (GoodTo n fs k) ∧ wr = w) (fun _ i _ => fs.length - (intOf i).toNat)
  case atStart => exact ⟨0, by omega, rfl, rfl, GoodTo.zero n fs, rfl⟩
  case round =>
    obtain ⟨k, hk, rfl, rfl, HZ, rfl⟩ := hrel
    have hmk : msk fs k < 128 := (good_msk HZ.out hk).1
    by_cases hlt : k < fs.length
    · obtain ⟨x, hx⟩ := Rg.get_at hlt
      obtain ⟨b, off, rfl, hbl, c0⟩ := HR.out.at hx
      have HNO := isNode_any x n wr
      cases hv : isV n x with
      | false =>
        have HF : Hid (rnM n fs = 0 ∧ rnB n fs = false) := rn_not hx (fun hh => by rw [hv] at hh; cases hh.1)
        have hv' : okN x n = false := hv
        rw [hv'] at HNO
        clear hv hv' hx hmk
        go_wp2_with (go_at_call 134; refine HNO.mono ?_; rintro e w1 ⟨rfl, rfl⟩)
        go_ret2
        exact ⟨ret_ub ⟨by rw [HF.out.1]; rfl, HF.out.2.symm⟩, rfl⟩
      | true =>
        obtain ⟨e1, e2⟩ := isV_frn hv
        have hv' : okN x n = true := hv
        rw [hv'] at HNO
        obtain ⟨j, HJ⟩ : ∃ j, Hid (frn x = j) := ⟨_, rfl⟩
        rw [HJ.out] at e1 e2
        have HAB := allBelow_any (msk fs k) j wr hmk e2
        have HWI := with_any (msk fs k) j wr hmk e2
        by_cases hb : msk fs k < 2 ^ j
        · have HS : Hid (msk fs (k + 1) = (msk fs k ||| 2 ^ j)) := by show _ = _; rw [msk_step hx, HJ.out]
          have HG : Hid (GoodTo n fs (k + 1)) := HZ.out.succ hx hv (by rw [HJ.out]; exact hb)
          rw [decide_eq_true hb] at HAB
          obtain ⟨q, HQ⟩ : ∃ q, Hid ((msk fs k ||| 2 ^ j) = q) := ⟨_, rfl⟩
          rw [HQ.out] at HWI HS
          subst e1
          clear hb hv hv' hx HJ HQ hmk
          generalize msk fs k = mm at HAB HWI ⊢
          go_wp2_with (first | (go_at_call 134; refine HNO.mono ?_; rintro e w1 ⟨rfl, rfl⟩) | (go_at_call 135; refine HAB.mono ?_; rintro e w1 ⟨rfl, rfl⟩) | (go_at_call 136; refine HWI.mono ?_; rintro e w1 ⟨rfl, rfl⟩))
          exact ⟨⟨k + 1, by omega, by rw [HS.out], by go_num, HG, trivial⟩, by simp [intOf]; omega⟩
        · have HF : Hid (rnM n fs = 0 ∧ rnB n fs = false) := rn_not hx (fun hh => hb (by have := hh.2; rwa [HJ.out] at this))
          rw [decide_eq_false hb] at HAB
          subst e1
          clear hb hv hv' hx HJ HWI hmk
          generalize msk fs k = mm at HAB ⊢
          go_wp2_with (first | (go_at_call 134; refine HNO.mono ?_; rintro e w1 ⟨rfl, rfl⟩) | (go_at_call 135; refine HAB.mono ?_; rintro e w1 ⟨rfl, rfl⟩))
          go_ret2
          exact ⟨ret_ub ⟨by rw [HF.out.1]; rfl, HF.out.2.symm⟩, rfl⟩
    · obtain rfl : k = fs.length := by omega
      have HF : Hid (rnM n fs = msk fs fs.length ∧ rnB n fs = true) := rn_end HZ.out
      clear hmk
      go_wp2_with fail
      go_ret2
      exact ⟨ret_ub ⟨by rw [HF.out.1], HF.out.2.symm⟩, rfl⟩
end Go.Proofs.YtnebohdlndiejaaGreatDoor.Xq

/- The voters of votes; a quorum of nodes that rise: the program's walks. -/
namespace Go.Proofs.YtnebohdlndiejaaGreatDoor.Xq
open Go.RowKit Go.Proofs.YtnebohdlndiejaaGreatDoor.Tm Go.Proofs.YtnebohdlndiejaaGreatDoor.Sl Go.Proofs.YtnebohdlndiejaaGreatDoor.Is
open Go.Proofs.YtnebohdlndiejaaGreatDoor.Qm (qOut inB)
open Go.Proofs.YtnebohdlndiejaaGreatDoor.Rg (RowG RowG.slice RowG.at lt_at mem_at blk_cell bel_new)
open Go.Proofs.YtnebohdlndiejaaGreatDoor.Gt (Vo E1)

set_option maxRecDepth 100000 in
set_option maxHeartbeats 1600000 in
theorem risingQuorum_any (n : Int) (v : Value) (fs : List Int) (w : World) (h : RowJ w v fs) (hl : fs.length ≤ 1048600) :
    Calls Tryz.prog 69 #[.int .i64 n, v] w fun e w' => e = .returned (.bool (qvB n fs)) ∧ w = w' := by
  have HN := risingNodes_any n v fs w h hl
  have HQ := isQuorum_any (rnM n fs) n w rnM_lt
  have HF : Hid (qvB n fs = (rnB n fs && (decide (fCode n = 0) && decide ((Lib.onesCount (rnM n fs) : Int) = qOut n)))) := qv_rn
  rw [HF.out]
  clear HF h
  generalize (decide (fCode n = 0) && decide ((Lib.onesCount (rnM n fs) : Int) = qOut n)) = q at HQ ⊢
  generalize rnM n fs = mm at HN HQ
  generalize rnB n fs = b at HN ⊢
  cases b with
  | false =>
    go_enter Tryz.func69, Tryz.ntmps69
    go_wp2_with (go_at_call 106; refine HN.mono ?_; rintro e w1 ⟨rfl, rfl⟩)
    go_ret
    exact ⟨rfl, rfl⟩
  | true =>
    go_enter Tryz.func69, Tryz.ntmps69
    go_wp2_with (first | (go_at_call 106; refine HN.mono ?_; rintro e w1 ⟨rfl, rfl⟩) | (go_at_call 107; refine HQ.mono ?_; rintro e w1 ⟨rfl, rfl⟩))
    go_ret
    exact ⟨rfl, rfl⟩
theorem own_nil (w : World) (B : Nat) : OwnI w B (.slice none 0 0) [] := World.ownsRow_nil _ _ _ _
theorem own_below {w w' : World} {B : Nat} {v : Value} {xs : List Int} (h : OwnI w B v xs) (hb : Below w.heap.size w w') : OwnI w' B v xs := by
  have hk : ∀ g, v.ownBlock = some g → w'.heap[g]? = w.heap[g]? := fun g hg => hb.block g (World.ownsRow.lt h g hg).2
  obtain ⟨hl, h⟩ := h
  refine ⟨hl, ?_⟩
  rcases h with h | ⟨g, cap, cur, rfl, hB, hg, hc, hm, hs, htk⟩
  · exact .inl h
  · exact .inr ⟨g, cap, cur, rfl, hB, (hk g rfl).trans hg, hc, hm, hs, htk⟩
/-- One integer more. -/
theorem list_i {P : Program} {ops : Array Oper} {rest : List Oper} {o : Oper} {a : Act} {Q : Exit → Act → World → Prop} (hgd : o.guard = none) (s x : Operand) (t : TypeId)
    (ho : o.op = .call { callee := .builtin .append, args := #[s, x], argTypes := #[t, t] }) (i : TypeInfo) (ht : P.underlying t = some (.slice 3)) (hi : P.info? 3 = some i) (hz : i.zero = some (.int .i64 0))
    (hsize : i.size = 1) (hby : i.bytes = 8) (B : Nat) (w0 W : World) (v : Value) (ts : List Int) (z : Int) (hs : a.eval s = v) (hown : OwnI W B v ts) (hg0 : Below B w0 W) (hB : B ≤ W.heap.size)
    (hx : a.eval x = .slice (some ⟨W.heap.size, 0, none⟩) 1 1) (hlen : ts.length ≤ 1048600)
    (h : ∀ v' w', OwnI w' B v' (ts ++ [z]) → Below B w0 w' → wpList P ops Q rest (a.put o.dst v') w') : wpList P ops Q (o :: rest) a (W.alloc (.cells #[.int .i64 z] 3)) := by
  have hown' : OwnI (W.alloc (.cells #[.int .i64 z] 3)) B v ts := own_below hown (bel_new _ _)
  refine wpList_append_own_at (P := P) _ hgd s x t ho B 3 i (.int .i64 0) 1 8 ht hi hz hsize hby rfl (by decide) v ts.length _ hs hown' ⟨W.heap.size, 0, none⟩ 1 1 [.int .i64 z] hx (by simp) (cell_one_new _ _ _) ?_ (by unfold maxLen; omega) (by omega) (by simp; omega) ?_
  · intro c hc
    simp at hc
    subst hc
    rfl
  · intro v' w' h1 h2 h3 h4
    exact h v' w' (by unfold OwnI; simpa using h1) ((hg0.alloc hB _).grown h2 (by simp; omega) (fun k hk => (World.ownsRow.lt hown' k hk).1))
/-- Who voted. -/
def vfs (vs : List Vo) : List Int := vs.map (·.f)
theorem vfs_length (vs : List Vo) : (vfs vs).length = vs.length := by simp [vfs]
theorem vfs_step {vs : List Vo} {k : Nat} {x : Vo} (h : vs[k]? = some x) : vfs (vs.take (k + 1)) = vfs (vs.take k) ++ [x.f] := by
  unfold vfs
  rw [List.take_add_one, h]
  simp
set_option maxRecDepth 100000 in
set_option maxHeartbeats 1600000 in
theorem votersOf_any (v : Value) (vs : List Vo) (w : World) (h : Gt.Row w v vs) (hl : vs.length ≤ 1048576) :
    Calls Tryz.prog 117 #[v] w fun e w' => ∃ u, e = .returned u ∧ OwnI w' w.heap.size u (vfs vs) ∧ Below w.heap.size w w' := by
  obtain ⟨i0, hi0, hz0, hz1, hz2⟩ := info_parts info3
  have HR : Hid (Gt.Row w v vs) := h
  obtain ⟨a, cap, rfl⟩ := RowG.slice h
  clear h
  go_enter Tryz.func117, Tryz.ntmps117
  go_wp2_with fail
  go_loopw [3, 8] (fun b i wr => ∃ k : Nat, k ≤ vs.length ∧ i = .int .i64 k ∧ Hid (OwnI wr w.heap.size b (vfs (vs.take k)) ∧ Below w.heap.size w wr)) (fun _ i _ => vs.length - (intOf i).toNat)
  case atStart => exact ⟨0, by omega, rfl, ⟨own_nil _ _, Below.refl _ _⟩⟩
  case round =>
    obtain ⟨k, hk, rfl, HZ⟩ := hrel
    obtain ⟨v0, rfl⟩ : ∃ v0, v0 = u3 := ⟨_, rfl⟩
    by_cases hlt : k < vs.length
    · obtain ⟨x, hx⟩ := Rg.get_at hlt
      obtain ⟨b, off, rfl, hbl, c0, c1⟩ := RowG.at (HR.out.below HZ.out.2) rfl hx
      have HS : Hid (vfs (vs.take (k + 1)) = vfs (vs.take k) ++ [x.f]) := vfs_step hx
      have HLN : Hid ((vfs (vs.take k)).length ≤ 1048600) := by show _ ≤ _; rw [vfs_length, List.length_take]; omega
      have HG : Hid (∀ o, OwnI (wr.alloc o) w.heap.size v0 (vfs (vs.take k)) ∧ Below w.heap.size w (wr.alloc o)) := fun o => ⟨own_below HZ.out.1 (bel_new _ _), HZ.out.2.alloc HZ.out.2.size o⟩
      clear hx
      go_wp2_with (at_builtin; go_must (refine list_i (by rfl) _ _ 26 (by rfl) i0 Tryz.underlying26 hi0 hz0 hz1 hz2 w.heap.size w _ _ (vfs (vs.take k)) x.f (by rfl) (HG.out _).1 (HG.out _).2 (HG.out _).2.size (by rw [Rg.size_new]; rfl) HLN.out ?_; intro v1 w1 o1 b1))
      exact ⟨⟨k + 1, by omega, by go_num, by rw [HS.out]; exact ⟨o1, b1⟩⟩, by simp [intOf]; omega⟩
    · obtain rfl : k = vs.length := by omega
      go_wp2_with fail
      go_ret
      refine ⟨_, rfl, ?_, HZ.out.2⟩
      have := HZ.out.1
      rwa [List.take_length] at this
end Go.Proofs.YtnebohdlndiejaaGreatDoor.Xq

/- The laws' helpers over checkpoints. -/
namespace Go.Proofs.YtnebohdlndiejaaGreatDoor.Hs
open Go.RowKit Go.Proofs.YtnebohdlndiejaaGreatDoor.Sl Go.Proofs.YtnebohdlndiejaaGreatDoor.Rg Go.Proofs.YtnebohdlndiejaaGreatDoor.Gt

/-- A checkpoint as a value. -/
def stV (sq sz : Int) (rt : ByteArray) (vr : Value) : Value := .agg #[.int .i64 sq, .int .i64 sz, .string rt, vr]
theorem e_of_block {w w' : World} {g o : Nat} {x : Vo} (h : w'.heap[g]? = w.heap[g]?) (hx : E1 w g o x) : E1 w' g o x := by
  obtain ⟨h0, h1⟩ := hx
  exact ⟨(World.cell?_of_block (a := ⟨g, _, none⟩) h).trans h0, (World.cell?_of_block (a := ⟨g, _, none⟩) h).trans h1⟩
set_option maxRecDepth 100000 in
set_option maxHeartbeats 1600000 in
theorem to_any (sq sz : Int) (rt : ByteArray) (vr : Value) (rs : List Vo) (w : World) (h : Row w vr rs) (hl : rs.length ≤ 1048576) :
    Calls Tryz.prog 20 #[stV sq sz rt vr] w fun e w' => ∃ g, e = .returned (stV sq sz rt (.slice (some ⟨g, 0, none⟩) rs.length rs.length)) ∧ w.heap.size ≤ g ∧ g < w'.heap.size ∧ (∀ i x, rs[i]? = some x → E1 w' g (i * 2) x) ∧ Below w.heap.size w w' ∧ Wr w' g (rs.length * 2) := by
  have HR : Hid (Row w vr rs) := h
  clear h
  unfold stV
  have HB : Hid (∀ o0 o1 o2, Below w.heap.size w (((w.alloc o0).alloc o1).alloc o2)) := fun o0 o1 o2 => (three (Below.refl _ _)).2.2.2.2
  have HS : Hid (∀ o0 o1 o2, (((w.alloc o0).alloc o1).alloc o2).heap.size = w.heap.size + 1 + 1 + 1) := fun o0 o1 o2 => by rw [Rg.size_new, Rg.size_new, Rg.size_new]
  go_enter Tryz.func20, Tryz.ntmps20
  go_wp2_with fail
  refine (toS_any vr rs _ (HR.out.below (HB.out _ _ _)) hl).mono ?_
  rintro e w3 ⟨g, rfl, hg0, hg1, hr, b3, hwr⟩
  obtain ⟨k0, k1, k2, kS, kB⟩ := three b3
  have hgS : w.heap.size + 1 + 1 + 1 ≤ g := by rw [HS.out] at hg0; exact hg0
  have K13 : Hid (w3.heap[w.heap.size + 1]? = some (.cells #[.int .i64 0, .int .i64 0, .string ⟨#[]⟩, .slice none 0 0] 30 (0, 0))) := k1
  have K23 : Hid (w3.heap[w.heap.size + 1 + 1]? = some (.cells #[.int .i64 sq, .int .i64 sz, .string rt, .slice none 0 0] 30 (0, 0))) := k2
  have KB3 : Hid (Below w.heap.size w w3) := kB
  have KR : Hid (g < w3.heap.size ∧ (∀ i y, rs[i]? = some y → E1 w3 g (i * 2) y) ∧ Wr w3 g (rs.length * 2)) := ⟨hg1, hr, hwr⟩
  clear hg0 hg1 hr b3 hwr k0 k1 k2 kS kB HB HS
  obtain ⟨s0, t0⟩ := blk_cell K23.out 3 (x := .slice none 0 0) rfl
  have B2 : Hid ((w3.setCell ⟨w.heap.size + 1 + 1, 3, none⟩ (.slice (some ⟨g, 0, none⟩) rs.length rs.length)).heap[w.heap.size + 1 + 1]? = some (.cells #[.int .i64 sq, .int .i64 sz, .string rt, .slice (some ⟨g, 0, none⟩) rs.length rs.length] 30 (0, 0))) := blk_set K23.out 3 (.slice (some ⟨g, 0, none⟩) rs.length rs.length)
  have A2 : Hid ((w3.setCell ⟨w.heap.size + 1 + 1, 3, none⟩ (.slice (some ⟨g, 0, none⟩) rs.length rs.length)).heap[w.heap.size + 1]? = some (.cells #[.int .i64 0, .int .i64 0, .string ⟨#[]⟩, .slice none 0 0] 30 (0, 0))) := (blk_far (by omega) 3 (.slice (some ⟨g, 0, none⟩) rs.length rs.length)).trans K13.out
  have G2 : Hid (Below w.heap.size w (w3.setCell ⟨w.heap.size + 1 + 1, 3, none⟩ (.slice (some ⟨g, 0, none⟩) rs.length rs.length))) := Below.setCell KB3.out (p := ⟨w.heap.size + 1 + 1, 3, none⟩) (by show _ ≤ w.heap.size + 1 + 1; omega) (.slice (some ⟨g, 0, none⟩) rs.length rs.length)
  have R2 : Hid (g < (w3.setCell ⟨w.heap.size + 1 + 1, 3, none⟩ (.slice (some ⟨g, 0, none⟩) rs.length rs.length)).heap.size ∧ (∀ i y, rs[i]? = some y → E1 (w3.setCell ⟨w.heap.size + 1 + 1, 3, none⟩ (.slice (some ⟨g, 0, none⟩) rs.length rs.length)) g (i * 2) y) ∧ Wr (w3.setCell ⟨w.heap.size + 1 + 1, 3, none⟩ (.slice (some ⟨g, 0, none⟩) rs.length rs.length)) g (rs.length * 2)) := ⟨by simpa using KR.out.1, fun i y hy => e_of_block (blk_far (by omega) 3 (.slice (some ⟨g, 0, none⟩) rs.length rs.length)) (KR.out.2.1 i y hy), KR.out.2.2.set _ _ _⟩
  clear K13 K23 KB3 KR
  go_upto_region 6 with fail
  generalize (w3.setCell ⟨w.heap.size + 1 + 1, 3, none⟩ (.slice (some ⟨g, 0, none⟩) rs.length rs.length)) = w9 at B2 A2 G2 R2 ⊢
  have p0 := (blk_cell B2.out 0 (x := .int .i64 sq) rfl).1
  have p1 := (blk_cell B2.out 1 (x := .int .i64 sz) rfl).1
  have p2 := (blk_cell B2.out 2 (x := .string rt) rfl).1
  have p3 := (blk_cell B2.out 3 (x := .slice (some ⟨g, 0, none⟩) rs.length rs.length) rfl).1
  obtain ⟨m0, n0⟩ := blk_cell A2.out 0 (x := .int .i64 0) rfl
  obtain ⟨m1, n1⟩ := blk_cell A2.out 1 (x := .int .i64 0) rfl
  obtain ⟨m2, n2⟩ := blk_cell A2.out 2 (x := .string ⟨#[]⟩) rfl
  obtain ⟨m3, n3⟩ := blk_cell A2.out 3 (x := .slice none 0 0) rfl
  have AF : ((((w9.setCell ⟨w.heap.size + 1, 0, none⟩ (.int .i64 sq)).setCell ⟨w.heap.size + 1, 1, none⟩ (.int .i64 sz)).setCell ⟨w.heap.size + 1, 2, none⟩ (.string rt)).setCell ⟨w.heap.size + 1, 3, none⟩ (.slice (some ⟨g, 0, none⟩) rs.length rs.length)).heap[w.heap.size + 1]? = some (.cells #[.int .i64 sq, .int .i64 sz, .string rt, .slice (some ⟨g, 0, none⟩) rs.length rs.length] 30 (0, 0)) := (blk_set (blk_set (blk_set (blk_set A2.out 0 (.int .i64 sq)) 1 (.int .i64 sz)) 2 (.string rt)) 3 (.slice (some ⟨g, 0, none⟩) rs.length rs.length))
  have FF : ((((w9.setCell ⟨w.heap.size + 1, 0, none⟩ (.int .i64 sq)).setCell ⟨w.heap.size + 1, 1, none⟩ (.int .i64 sz)).setCell ⟨w.heap.size + 1, 2, none⟩ (.string rt)).setCell ⟨w.heap.size + 1, 3, none⟩ (.slice (some ⟨g, 0, none⟩) rs.length rs.length)).heap[g]? = w9.heap[g]? := ((blk_far (by omega) 3 (.slice (some ⟨g, 0, none⟩) rs.length rs.length)).trans ((blk_far (by omega) 2 (.string rt)).trans ((blk_far (by omega) 1 (.int .i64 sz)).trans ((blk_far (by omega) 0 (.int .i64 sq)).trans (Eq.refl w9.heap[g]?)))))
  have RF : Hid (g < ((((w9.setCell ⟨w.heap.size + 1, 0, none⟩ (.int .i64 sq)).setCell ⟨w.heap.size + 1, 1, none⟩ (.int .i64 sz)).setCell ⟨w.heap.size + 1, 2, none⟩ (.string rt)).setCell ⟨w.heap.size + 1, 3, none⟩ (.slice (some ⟨g, 0, none⟩) rs.length rs.length)).heap.size ∧ (∀ i y, rs[i]? = some y → E1 ((((w9.setCell ⟨w.heap.size + 1, 0, none⟩ (.int .i64 sq)).setCell ⟨w.heap.size + 1, 1, none⟩ (.int .i64 sz)).setCell ⟨w.heap.size + 1, 2, none⟩ (.string rt)).setCell ⟨w.heap.size + 1, 3, none⟩ (.slice (some ⟨g, 0, none⟩) rs.length rs.length)) g (i * 2) y) ∧ Wr ((((w9.setCell ⟨w.heap.size + 1, 0, none⟩ (.int .i64 sq)).setCell ⟨w.heap.size + 1, 1, none⟩ (.int .i64 sz)).setCell ⟨w.heap.size + 1, 2, none⟩ (.string rt)).setCell ⟨w.heap.size + 1, 3, none⟩ (.slice (some ⟨g, 0, none⟩) rs.length rs.length)) g (rs.length * 2) ∧ Below w.heap.size w ((((w9.setCell ⟨w.heap.size + 1, 0, none⟩ (.int .i64 sq)).setCell ⟨w.heap.size + 1, 1, none⟩ (.int .i64 sz)).setCell ⟨w.heap.size + 1, 2, none⟩ (.string rt)).setCell ⟨w.heap.size + 1, 3, none⟩ (.slice (some ⟨g, 0, none⟩) rs.length rs.length))) := ⟨by simpa using R2.out.1, fun i y hy => e_of_block FF (R2.out.2.1 i y hy), ((((R2.out.2.2.set _ _ _).set _ _ _).set _ _ _).set _ _ _), (Below.setCell (Below.setCell (Below.setCell (Below.setCell G2.out (p := ⟨w.heap.size + 1, 0, none⟩) (by show _ ≤ w.heap.size + 1; omega) (.int .i64 sq)) (p := ⟨w.heap.size + 1, 1, none⟩) (by show _ ≤ w.heap.size + 1; omega) (.int .i64 sz)) (p := ⟨w.heap.size + 1, 2, none⟩) (by show _ ≤ w.heap.size + 1; omega) (.string rt)) (p := ⟨w.heap.size + 1, 3, none⟩) (by show _ ≤ w.heap.size + 1; omega) (.slice (some ⟨g, 0, none⟩) rs.length rs.length))⟩
  clear FF R2 G2
  go_wp2_with fail
  generalize ((((w9.setCell ⟨w.heap.size + 1, 0, none⟩ (.int .i64 sq)).setCell ⟨w.heap.size + 1, 1, none⟩ (.int .i64 sz)).setCell ⟨w.heap.size + 1, 2, none⟩ (.string rt)).setCell ⟨w.heap.size + 1, 3, none⟩ (.slice (some ⟨g, 0, none⟩) rs.length rs.length)) = wf at AF RF ⊢
  have d0 := (blk_cell AF 0 (x := .int .i64 sq) rfl).1
  have d1 := (blk_cell AF 1 (x := .int .i64 sz) rfl).1
  have d2 := (blk_cell AF 2 (x := .string rt) rfl).1
  have d3 := (blk_cell AF 3 (x := .slice (some ⟨g, 0, none⟩) rs.length rs.length) rfl).1
  exact bodyPost_ret (v := stV sq sz rt (.slice (some ⟨g, 0, none⟩) rs.length rs.length)) (by simp [stV, results, Tryz.results20, go_sem, d0, d1, d2, d3]) rfl ⟨g, rfl, by omega, RF.out.1, RF.out.2.1, RF.out.2.2.2, RF.out.2.2.1⟩
set_option maxRecDepth 100000 in
set_option maxHeartbeats 1600000 in
theorem sz_any (sq sz : Int) (rt : ByteArray) (l : Nat) (vr : Value) (rs : List Vo) (w : World) (h : Row w vr rs) (hm : ∀ x ∈ rs, Tz maxLen x) (hz : rs.length ≤ maxLen) (hn : rt.size ≤ maxLen) (hl : l ≤ 1048576) :
    Calls Tryz.prog 17 #[stV sq sz rt vr, .int .i64 l] w fun e w' => (∃ r : Int, e = .returned (.int .i64 r) ∧ (r = -1 ∨ ∃ q : Nat, r = q ∧ q ≤ 1048576 ∧ rt.size ≤ 1048576 ∧ rs.length ≤ 1048576 ∧ ∀ x ∈ rs, Tz 1048576 x)) ∧ Below w.heap.size w w' := by
  have HR : Hid (Row w vr rs ∧ (∀ x ∈ rs, Tz maxLen x) ∧ rs.length ≤ maxLen) := ⟨h, hm, hz⟩
  clear h hm hz
  unfold stV
  have hn2 : rt.size ≤ 9223372036854775807 := by unfold maxLen at hn; omega
  clear hn
  have HB1 : Hid (Below w.heap.size w (w.alloc (.cells #[.int .i64 sq, .int .i64 sz, .string rt, vr] 48))) := bel_new _ _
  by_cases hb : (l : Int) < (rt.size : Int)
  · have hb' : (l : Int) - (rt.size : Int) < 0 := by omega
    go_enter Tryz.func17, Tryz.ntmps17
    go_wp2_with fail
    go_ret
    exact ⟨⟨_, rfl, .inl rfl⟩, HB1.out⟩
  · obtain ⟨q, HQ⟩ : ∃ q : Nat, (l : Int) - (rt.size : Int) = q ∧ q ≤ 1048576 := ⟨l - rt.size, by omega, by omega⟩
    have hq0 : ¬ (q : Int) < 0 := by omega
    have hq1 : ¬ (l : Int) - (rt.size : Int) < 0 := by omega
    have HC := szS_any vr rs q (w.alloc (.cells #[.int .i64 sq, .int .i64 sz, .string rt, vr] 48)) (HR.out.1.below HB1.out) HR.out.2.1 HR.out.2.2 HQ.2
    rw [← HQ.1] at HC
    clear HQ
    go_enter Tryz.func17, Tryz.ntmps17
    go_wp2_with fail
    refine HC.mono ?_
    rintro e w2 ⟨⟨r, rfl, hr⟩, b2⟩
    have HB2 : Hid (Below w.heap.size w w2) := HB1.out.trans (b2.mono HB1.out.size)
    clear b2 HC
    rcases hr with rfl | ⟨p, rfl, hp1, hp2, hp3⟩
    · go_wp2_with fail
      go_ret
      exact ⟨⟨_, rfl, .inl rfl⟩, HB2.out⟩
    · have hp0 : ¬ (p : Int) < 0 := by omega
      have HP : Hid (∀ x ∈ rs, Tz 1048576 x) := hp3
      clear hp3
      go_wp2_with fail
      go_ret
      exact ⟨⟨_, rfl, .inr ⟨p, rfl, hp1, by omega, hp2, HP.out⟩⟩, HB2.out⟩
set_option maxRecDepth 100000 in
set_option maxHeartbeats 1600000 in
theorem eq_same (sq sz : Int) (rt : ByteArray) (vr ur : Value) (rs : List Vo) (w : World) (h : Row w vr rs) (g : Row w ur rs) (hl : rs.length ≤ 1048576) :
    Calls Tryz.prog 10 #[stV sq sz rt vr, stV sq sz rt ur] w fun e w' => e = .returned (.bool true) ∧ Below w.heap.size w w' := by
  have HR : Hid (Row w vr rs ∧ Row w ur rs) := ⟨h, g⟩
  clear h g
  unfold stV
  have hne : (rt.toList != rt.toList) = false := by simp
  have hne2 : (rt.toList == rt.toList) = true := by simp
  have hne3 : (sq != sq) = false := by simp
  have hne4 : (sz != sz) = false := by simp
  have HB1 : Hid (Below w.heap.size w ((w.alloc (.cells #[.int .i64 sq, .int .i64 sz, .string rt, vr] 30)).alloc (.cells #[.int .i64 sq, .int .i64 sz, .string rt, ur] 30))) := ((Below.refl _ _).alloc (Nat.le_refl _) _).alloc (by simp) _
  go_enter Tryz.func10, Tryz.ntmps10
  go_wp2_with fail
  refine (eqS_same vr ur rs _ (HR.out.1.below HB1.out) (HR.out.2.below HB1.out) hl).mono ?_
  rintro e w2 ⟨rfl, b2⟩
  have HB2 : Hid (Below w.heap.size w w2) := HB1.out.trans (b2.mono HB1.out.size)
  clear b2
  go_wp2_with fail
  go_ret
  exact ⟨rfl, HB2.out⟩
set_option maxRecDepth 100000 in
set_option maxHeartbeats 1600000 in
theorem mark_any (sq sz : Int) (rt : ByteArray) (g m : Nat) (B C : Nat) (w : World) (h : Wr w g (m * 2)) (hB : B ≤ g) (hC : g < C) (hn : m ≤ 1048576) :
    Calls Tryz.prog 15 #[stV sq sz rt (.slice (some ⟨g, 0, none⟩) m m), .int .i64 1] w fun e w' => (∃ r : Nat, e = .returned (.int .i64 (r : Int))) ∧ Mid B C w w' := by
  have H : Hid (Wr w g (m * 2)) := h
  clear h
  unfold stV
  have HB : Hid (Below w.heap.size w (w.alloc (.cells #[.int .i64 sq, .int .i64 sz, .string rt, .slice (some ⟨g, 0, none⟩) m m] 30))) := bel_new _ _
  have h1 := heap_alloc_new w (.cells #[.int .i64 sq, .int .i64 sz, .string rt, .slice (some ⟨g, 0, none⟩) m m] 30)
  have c6 := (blk_cell h1 3 (x := .slice (some ⟨g, 0, none⟩) m m) rfl).1
  clear h1
  go_enter Tryz.func15, Tryz.ntmps15
  go_wp2_with fail
  refine (markS_any g m m 1 B C _ (H.out.below HB.out) hB hC hn (by decide) (by decide)).mono ?_
  rintro e w1 ⟨r, rfl, _, _, m1⟩
  have HM : Hid (Mid B C w w1) := (Mid.of_below HB.out).trans m1
  clear m1 c6
  go_wp2_with fail
  go_ret
  exact ⟨⟨_, rfl⟩, HM.out⟩
end Go.Proofs.YtnebohdlndiejaaGreatDoor.Hs
namespace Go.Proofs.YtnebohdlndiejaaGreatDoor.Op
open Go.ChangeShapes Go.WideShapes Go.ChangeAt Go.RowKit Go.Deep Go.Proofs.YtnebohdlndiejaaGreatDoor.Gt Go.Proofs.YtnebohdlndiejaaGreatDoor.Hs
set_option maxRecDepth 100000 in
theorem open_stable {H : Type} {enc : TypeId × Value → H} {w : World} {base : Nat} {spare : Nat → Bool} {held : Bool} {r : Reach} {b0 : Nat} {v : Value} {d : DataW H} {p : List MemPlace}
    (hv : Value.okWide Tryz.prog w r b0 48 v) (h : DataW.Trod enc Tryz.prog w base spare held 48 v d p) :
    ∃ (sq sz : Int) (rt : ByteArray) (vr : Value) (rs : List Vo), v = stV sq sz rt vr ∧ Row w vr rs ∧ rs.length ≤ maxLen ∧ (∀ x ∈ rs, Tz maxLen x) ∧ rt.size ≤ maxLen := by
  have k1 : Tryz.prog.cellsOf 3 = 1 := by kernel_rfl
  have k2 : Tryz.prog.cellsOf 9 = 1 := by kernel_rfl
  have k5 : Tryz.prog.cellsOf 46 = 1 := by kernel_rfl
  obtain ⟨cs, rfl, hsz⟩ := okWide_struct Tryz.underlying48 hv
  obtain ⟨fuel, hf⟩ := h
  obtain ⟨xs, n, _, _, hl, hlen, hfs⟩ := DataW.trod_struct Tryz.underlying48 hf
  have hsz2 : cs.size = 4 := hsz.trans (by kernel_rfl)
  obtain ⟨cl⟩ := cs
  match cl, hsz2 with
  | [c0, c1, c2, c3], _ =>
    match xs, hlen with
    | [y0, y1, y2, y3], _ =>
      have g0 := hfs 0 _ rfl
      have g1 := hfs 1 _ rfl
      have g2 := hfs 2 _ rfl
      have g3 := hfs 3 _ rfl
      simp [Value.cells, k1, k2, k5] at g0 g1 g2 g3
      obtain ⟨z0, q0, _, _⟩ := DataW.trod_int Tryz.underlying3 g0
      obtain ⟨z1, q1, _, _⟩ := DataW.trod_int Tryz.underlying3 g1
      obtain ⟨z2, q2, _, m2⟩ := DataW.trod_string Tryz.underlying9 g2
      obtain ⟨v6, rs, q6, r6, l6, t6⟩ := openGt g3
      simp at q0 q1 q2 q6
      subst q0 q1 q2 q6
      exact ⟨z0, z1, z2, _, rs, rfl, r6, l6, t6, m2⟩
end Go.Proofs.YtnebohdlndiejaaGreatDoor.Op
