/- Texts put together: Ph, La, SlRow. -/
import Derived.Test.YtakfniknkejgpaaDoorMp10
import Derived.Test.YtakfniknkejgpaaDoorMp1
import Derived.OpenShut
/- CutPieces: both functions. -/
namespace Go.Proofs.YtakfniknkejgpaaDoor.Pg
open Go.RowKit Go.Proofs.YtakfniknkejgpaaDoor.Sl Go.Proofs.YtakfniknkejgpaaDoor.By Go.Proofs.YtakfniknkejgpaaDoor.Ap Go.Proofs.YtakfniknkejgpaaDoor.Tx Go.Proofs.YtakfniknkejgpaaDoor.Pf

theorem pcn_ne {xs : List Int} {k : Nat} (h : k < cutN xs) : pcn xs k ≠ [] := by
 intro e
 have h1 : (pcn xs k).length = 0 := by rw [e]; rfl
 unfold pcn at h1
 rw [List.length_take, List.length_drop] at h1
 unfold cutN at h
 omega
set_option maxRecDepth 100000 in
set_option maxHeartbeats 1600000 in
theorem implCutPieces_any (v : Value) (xs : List Int) (w : World) (h : RowB w v xs) (hl : xs.length ≤ 1048576) :
 Calls Tryd.prog 13 #[v] w fun e w' => ∃ v', e = .returned (.tuple #[v', .int .i64 (cutC xs)]) ∧ OwnS w' w.heap.size v' (cutL xs) ∧ Below w.heap.size w w' := by
 obtain ⟨i0, hi0, hz0, hz1, hz2⟩ := info_parts info9
 have HR : Hid (RowB w v xs) := h
 obtain ⟨a, cap, rfl, _⟩ := h
 by_cases h1 : 65536 < xs.length
 ·have h1' : (65536 : Int) < (xs.length : Int) := by omega
  have HE : Hid (cutC xs = 2 ∧ cutL xs = []) := cut_long h1
  clear h1
  go_enter Tryd.func13, Tryd.ntmps13
  go_wp2_with fail
  go_ret2
  rw [HE.out.1, HE.out.2]
  exact ⟨_, rfl, OwnS.nil _ _, Below.refl _ _⟩
 have h1' : ¬ (65536 : Int) < (xs.length : Int) := by omega
 by_cases h2 : 2048 < xs.length
 ·have h2' : (2048 : Int) < (xs.length : Int) := by omega
  have HE : Hid (cutC xs = 7 ∧ cutL xs = []) := cut_full h1 h2
  clear h1 h2
  go_enter Tryd.func13, Tryd.ntmps13
  go_wp2_with fail
  go_ret2
  rw [HE.out.1, HE.out.2]
  exact ⟨_, rfl, OwnS.nil _ _, Below.refl _ _⟩
 have h2' : ¬ (2048 : Int) < (xs.length : Int) := by omega
 have HE : Hid (cutC xs = 0 ∧ cutL xs = cutTo xs (cutN xs)) := cut_ok h2
 have hN : cutN xs ≤ 64 := by unfold cutN; omega
 have HP : Hid (Calls Tryd.prog 36 #[.slice a xs.length cap] w fun e w' => ∃ u, e = .returned u ∧ (∃ vs, vs.length = cutN xs ∧ OwnP w' w.heap.size u vs ∧ ∀ j, j < cutN xs → ∃ x, vs[j]? = some x ∧ RowB w x (pcn xs j)) ∧ Below w.heap.size w w') := partsOf_any _ xs w HR.out (by omega)
 have HPN : Hid (∀ k, k < cutN xs → pcn xs k ≠ []) := fun k hk => pcn_ne hk
 generalize cutN xs = n at HE hN HP HPN
 clear h1 h2 HR hl
 go_enter Tryd.func13, Tryd.ntmps13
 go_wp2_with fail
 refine HP.out.mono ?_
 rintro e w1 ⟨u, rfl, ⟨vs, hv, o1, hrow⟩, b1⟩
 obtain ⟨ua, uc, rfl⟩ := OwnP.form o1
 rw [hv] at o1 ⊢
 have HV : Hid (vs.length = n) := hv
 have O1 : Hid (OwnP w1 w.heap.size (.slice ua vs.length uc) vs) := by show OwnP _ _ _ _; rw [hv]; exact o1
 have HW : Hid (∀ j, j < n → ∃ x, vs[j]? = some x ∧ RowB w x (pcn xs j)) := hrow
 have B1 : Hid (Below w.heap.size w w1) := b1
 clear hv o1 hrow b1 HP
 go_wp2_with fail
 go_loopw [4, 16] (fun l i wr => ∃ k : Nat, k ≤ n ∧ i = .int .i64 k ∧ OwnS wr w1.heap.size l (cutTo xs k) ∧ Below w1.heap.size w1 wr) (fun _ i _ => n - (intOf i).toNat)
 case atStart => exact ⟨0, by omega, rfl, OwnS.nil _ _, Below.refl _ _⟩
 case round =>
  obtain ⟨k, hk, rfl, ho, hb⟩ := hrel
  by_cases hlt : k < n
  ·obtain ⟨x, hx, rx⟩ := HW.out k hlt
   obtain ⟨g, c, hu, hc, hg, hcell⟩ := O1.out.cell hx
   rw [HV.out] at hu hc
   obtain ⟨rfl, rfl⟩ : ua = some ⟨g, 0, none⟩ ∧ uc = c := by
    have := hu
    simp only [Value.slice.injEq, true_and] at this
    exact this
   have c1 : wr.cell? ⟨g, k, none⟩ = some x := (hb.cell (p := ⟨g, k, none⟩) hg).trans hcell
   have rx2 : RowB wr x (pcn xs k) := (rx.below B1.out).below hb
   have hcv := run_conv_row (P := Tryd.prog) wr 22 5 9 Tryd.underlying22 Tryd.underlying5 Tryd.underlying9 x _ rx2 (HPN.out k hlt)
   have hp1 : (k : Int) < (n : Int) := by omega
   have HO : Hid (OwnS wr w1.heap.size u4 (cutTo xs k)) := ho
   have hB : w1.heap.size ≤ wr.heap.size := hb.size
   have hln : (cutTo xs k).length ≤ 1000000 := by rw [cutTo_length]; omega
   obtain ⟨xa, xc, rfl, _⟩ := rx2
   clear hu hx rx hcell ho
   go_wp2_with (at_builtin; go_must (refine list_texts (by rfl) _ _ 36 (by rfl) i0 Tryd.underlying36 hi0 hz0 hz1 hz2 w1.heap.size w1 wr _ (cutTo xs k) [strOfNums (pcn xs k)] _ 1 rfl rfl (by decide) (by rfl) HO.out hb hB (by rfl) hln ?_; intro v3 w3 o3 b3 s3 k3))
   exact ⟨⟨k + 1, by omega, by go_num, o3, b3⟩, by simp [intOf]; omega⟩
  ·obtain rfl : k = n := by omega
   have HO : Hid (OwnS wr w1.heap.size u4 (cutTo xs k)) := ho
   have HBB : Hid (Below w.heap.size w wr) := B1.out.trans (hb.mono B1.out.size)
   clear ho
   go_wp2_with fail
   go_ret2
   rw [HE.out.1, HE.out.2]
   exact ⟨_, rfl, HO.out.mono B1.out.size, HBB.out⟩

set_option maxRecDepth 100000 in
set_option maxHeartbeats 1600000 in
theorem l09Cut_any (v : Value) (xs : List Int) (w : World) (h : RowB w v xs) (hl : xs.length ≤ 2048) :
 Calls Tryd.prog 37 #[v] w fun e w' => ∃ v', e = .returned v' ∧ OwnS w' w.heap.size v' (cutTo xs (cutN xs)) ∧ Below w.heap.size w w' := by
 obtain ⟨i0, hi0, hz0, hz1, hz2⟩ := info_parts info9
 have HR : Hid (RowB w v xs) := h
 obtain ⟨a, cap, rfl, hcp, _⟩ := h
 have HC : Hid (xs = [] ∨ xs.length ≤ cap) := hcp.imp id fun ⟨_, _, _, h, _⟩ => h
 clear hcp
 have HN : Hid (∀ k, k ≤ cutN xs ↔ 32 * k < xs.length + 32) := fun k => by unfold cutN; omega
 have HPN : Hid (∀ k, k < cutN xs → pcn xs k ≠ []) := fun k hk => pcn_ne hk
 have HM : Hid (cutN xs ≤ 64) := by show _ ≤ _; unfold cutN; omega
 generalize cutN xs = n at HN HPN HM
 have hB0 : Below w.heap.size w (w.alloc (.cells #[] 9)) := bel_new _ _
 have O0 : Hid (OwnS (w.alloc (.cells #[] 9)) w.heap.size (.slice (some ⟨w.heap.size, 0, none⟩) 0 0) []) := OwnS.made w _ (Nat.le_refl _)
 go_enter Tryd.func37, Tryd.ntmps37
 go_wp2_with fail
 go_loopw [3, 4] (fun l i wr => ∃ k : Nat, k ≤ n ∧ i = .int .i64 (32 * (k : Int)) ∧ OwnS wr w.heap.size l (cutTo xs k) ∧ Below w.heap.size w wr) (fun _ i _ => 32 * n - (intOf i).toNat)
 case atStart => exact ⟨0, by omega, rfl, O0.out, hB0⟩
 case round =>
  clear O0 hB0
  obtain ⟨k, hk, rfl, ho, hb⟩ := hrel
  have hK1 := HN.out k
  have hK2 := HN.out (k + 1)
  by_cases hlt : k < n
  ·have hi1 : 32 * k < xs.length := by omega
   have hi1' : 32 * (k : Int) < (xs.length : Int) := by omega
   have hcap : xs.length ≤ cap := by
    rcases HC.out with h | h
    ·rw [h] at hi1; simp at hi1
    ·exact h
   have HO : Hid (OwnS wr w.heap.size u3 (cutTo xs k)) := ho
   have hB : w.heap.size ≤ wr.heap.size := hb.size
   have hln : (cutTo xs k).length ≤ 1000000 := by rw [cutTo_length]; have := HM.out; omega
   have rd := rowB_drop HR.out (show 32 * k ≤ xs.length by omega)
   rw [if_neg (by omega)] at rd
   obtain ⟨m, hm1, hm2⟩ : ∃ m : Nat, m = min xs.length (32 * k + 32) ∧ pcn xs k = (xs.drop (32 * k)).take (m - 32 * k) := ⟨_, rfl, by
    unfold pcn
    by_cases h32 : xs.length ≤ 32 * k + 32
    ·rw [Nat.min_eq_left h32, List.take_of_length_le (by rw [List.length_drop]; omega), List.take_of_length_le (by rw [List.length_drop]; omega)]
    ·rw [Nat.min_eq_right (by omega), show 32 * k + 32 - 32 * k = 32 by omega]⟩
   have rt : RowB w (.slice (a.map (·.add (32 * k))) (m - 32 * k) (cap - 32 * k)) (pcn xs k) := by
    rw [hm2]
    exact rowB_take (by rw [List.length_drop]; exact rd) (by rw [List.length_drop]; omega)
   have rx2 := rt.below hb
   have hcv := run_conv_row (P := Tryd.prog) wr 22 5 9 Tryd.underlying22 Tryd.underlying5 Tryd.underlying9 _ _ rx2 (HPN.out k hlt)
   have hw1 : IntKind.i64.wrap (32 * (k : Int) + 32) = 32 * (k : Int) + 32 := by rw [IntKind.wrap_i64]; omega
   have hmn : (if 32 * (k : Int) + 32 < (xs.length : Int) then 32 * (k : Int) + 32 else (xs.length : Int)) = (m : Int) := by split <;> omega
   have hmn2 : min (xs.length : Int) (32 * (k : Int) + 32) = (m : Int) := by omega
   have e1 : (32 * (k : Int)).toNat = 32 * k := by omega
   have e2 : ((m : Int) - 32 * (k : Int)).toNat = m - 32 * k := by omega
   have q1 : (0 : Int) ≤ 32 * (k : Int) := by omega
   have q2 : 32 * (k : Int) ≤ (m : Int) := by omega
   have q3 : (m : Int) ≤ (cap : Int) := by omega
   have q4 : ¬ cap = 32 * k := by omega
   clear rd rt rx2 hm1 hm2 ho hK1 hK2
   go_wp2_with (at_builtin; go_must (refine list_texts (by rfl) _ _ 36 (by rfl) i0 Tryd.underlying36 hi0 hz0 hz1 hz2 w.heap.size w wr _ (cutTo xs k) [strOfNums (pcn xs k)] _ 1 rfl rfl (by decide) (by rfl) HO.out hb hB (by rfl) hln ?_; intro v3 w3 o3 b3 s3 k3))
   exact ⟨⟨k + 1, by omega, val_eq (by omega), o3, b3⟩, by simp [intOf]; omega⟩
  ·obtain rfl : k = n := by omega
   have hge : ¬ 32 * (k : Int) < (xs.length : Int) := by omega
   have HO : Hid (OwnS wr w.heap.size u3 (cutTo xs k)) := ho
   clear ho hK1 hK2
   go_wp2_with fail
   go_ret
   exact ⟨_, rfl, HO.out, hb⟩
set_option maxRecDepth 100000 in
set_option maxHeartbeats 800000 in
theorem specCutPieces_any (v : Value) (xs : List Int) (w : World) (h : RowB w v xs) (hl : xs.length ≤ 1048576) :
 Calls Tryd.prog 14 #[v] w fun e w' => ∃ v', e = .returned (.tuple #[v', .int .i64 (cutC xs)]) ∧ OwnS w' w.heap.size v' (cutL xs) ∧ Below w.heap.size w w' := by
 have HR : Hid (RowB w v xs) := h
 obtain ⟨a, cap, rfl, _⟩ := h
 by_cases h1 : 65536 < xs.length
 ·have h1' : (65536 : Int) < (xs.length : Int) := by omega
  have HE : Hid (cutC xs = 2 ∧ cutL xs = []) := cut_long h1
  clear h1
  go_enter Tryd.func14, Tryd.ntmps14
  go_wp2_with fail
  go_ret2
  rw [HE.out.1, HE.out.2]
  exact ⟨_, rfl, OwnS.made w _ (Nat.le_refl _), bel_new _ _⟩
 have h1' : ¬ (65536 : Int) < (xs.length : Int) := by omega
 by_cases h2 : 2048 < xs.length
 ·have h2' : (2048 : Int) < (xs.length : Int) := by omega
  have HE : Hid (cutC xs = 7 ∧ cutL xs = []) := cut_full h1 h2
  clear h1 h2
  go_enter Tryd.func14, Tryd.ntmps14
  go_wp2_with fail
  go_ret2
  rw [HE.out.1, HE.out.2]
  exact ⟨_, rfl, OwnS.made w _ (Nat.le_refl _), bel_new _ _⟩
 have h2' : ¬ (2048 : Int) < (xs.length : Int) := by omega
 have HE : Hid (cutC xs = 0 ∧ cutL xs = cutTo xs (cutN xs)) := cut_ok h2
 have HP := l09Cut_any _ xs w HR.out (by omega)
 have HQ : Hid (Calls Tryd.prog 37 #[.slice a xs.length cap] w fun e w' => ∃ v', e = .returned v' ∧ OwnS w' w.heap.size v' (cutTo xs (cutN xs)) ∧ Below w.heap.size w w') := HP
 clear HP h1 h2 HR hl
 go_enter Tryd.func14, Tryd.ntmps14
 go_wp2_with fail
 refine HQ.out.mono ?_
 rintro e w1 ⟨u, rfl, o1, b1⟩
 have O1 : Hid (OwnS w1 w.heap.size u (cutTo xs (cutN xs))) := o1
 clear o1 HQ
 go_wp2_with fail
 go_ret2
 rw [HE.out.1, HE.out.2]
 exact ⟨_, rfl, O1.out, b1⟩
end Go.Proofs.YtakfniknkejgpaaDoor.Pg

/- The laws' own choices: at; a number in a list: hasInt. -/
namespace Go.Proofs.YtakfniknkejgpaaDoor.La
open Go.RowKit Go.Proofs.YtakfniknkejgpaaDoor.Sl

def atN (xs : List Int) (i n : Nat) : Nat := if n ≤ 1 then 0 else if xs.length = 0 then i * 7 % n else ((nth xs (i % xs.length)).toNat * 31 + (nth xs ((i + 1) % xs.length)).toNat + i / xs.length) % n
theorem atN_lt (xs : List Int) (i n : Nat) (h : 0 < n) : atN xs i n < n := by
 unfold atN
 by_cases h1 : n ≤ 1
 ·rw [if_pos h1]; exact h
 ·rw [if_neg h1]
  split
  ·exact Nat.mod_lt _ h
  ·exact Nat.mod_lt _ h
theorem ret_n {a b : Nat} (h : a = b) : Ending.returned (.int .i64 (a : Int)) = .returned (.int .i64 (b : Int)) := by rw [h]
set_option maxRecDepth 100000 in
set_option maxHeartbeats 800000 in
theorem atN_any (v : Value) (xs : List Int) (i n : Nat) (w : World) (h : RowB w v xs) (hx : xs.length ≤ 1048576) (hi : i ≤ 1000) (hn : 0 < n) (hn2 : n ≤ 1000000) :
 Calls Tryd.prog 19 #[v, .int .i64 i, .int .i64 n] w fun e w' => e = .returned (.int .i64 (atN xs i n : Nat)) ∧ Below w.heap.size w w' := by
 obtain ⟨a, cap, rfl, h, hr⟩ := h
 by_cases hone : n = 1
 ·subst hone
  go_enter Tryd.func19, Tryd.ntmps19
  go_wp2_with fail
  go_ret
  exact ⟨rfl, Below.refl _ _⟩
 have h1 : ¬ (n : Int) ≤ 1 := by omega
 have h1z : ¬ (n : Int) = 0 := by omega
 by_cases h0 : xs = []
 ·subst h0
  go_enter Tryd.func19, Tryd.ntmps19
  go_wp2_with fail
  go_ret
  exact ⟨ret_n (by unfold atN; rw [if_neg (by omega)]; simp), Below.refl _ _⟩
 ·rcases h with h | ⟨b, off, rfl, hc, hb, hcell⟩
  ·exact absurd h h0
  have hpos : 0 < xs.length := by cases xs with | nil => exact absurd rfl h0 | cons x l => simp
  have e0 : ((xs.length : Int) == 0) = false := by simp; omega
  have e1 : ¬ (xs.length : Int) = 0 := by omega
  have j1 : i % xs.length < xs.length := Nat.mod_lt _ hpos
  have j2 : (i + 1) % xs.length < xs.length := Nat.mod_lt _ hpos
  have c1 := hcell _ j1
  have c2 := hcell _ j2
  have r1 := range_at hr (i % xs.length)
  have r2 := range_at hr ((i + 1) % xs.length)
  have k1 : (i : Int) % (xs.length : Int) = ((i % xs.length : Nat) : Int) := by omega
  have k2 : ((i : Int) + 1) % (xs.length : Int) = (((i + 1) % xs.length : Nat) : Int) := by rw [Int.natCast_emod, Int.natCast_add]; rfl
  have k3 : (i : Int) / (xs.length : Int) = ((i / xs.length : Nat) : Int) := by rw [Int.natCast_ediv]
  have k4 : i / xs.length ≤ i := Nat.div_le_self _ _
  have q1 : ((i % xs.length : Nat) : Int) < (xs.length : Int) := by omega
  have q2 : (((i + 1) % xs.length : Nat) : Int) < (xs.length : Int) := by omega
  obtain ⟨y1, hy1⟩ : ∃ y1 : Nat, nth xs (i % xs.length) = y1 := ⟨(nth xs (i % xs.length)).toNat, by omega⟩
  obtain ⟨y2, hy2⟩ : ∃ y2 : Nat, nth xs ((i + 1) % xs.length) = y2 := ⟨(nth xs ((i + 1) % xs.length)).toNat, by omega⟩
  rw [hy1] at c1 r1
  rw [hy2] at c2 r2
  have z1 : (y1 : Int) ≤ 255 := r1.2
  have z2 : (y2 : Int) ≤ 255 := r2.2
  have z3 : ((i / xs.length : Nat) : Int) ≤ 1000 := by omega
  have HE : Hid ((y1 * 31 + y2 + i / xs.length) % n = atN xs i n) := by show _ = _; unfold atN; rw [if_neg (by omega), if_neg (by omega), hy1, hy2]; rfl
  clear hcell hr h0 hy1 hy2 r1 r2 j1 j2
  generalize i % xs.length = p at c1 k1 q1
  generalize (i + 1) % xs.length = q at c2 k2 q2
  generalize i / xs.length = d at k3 k4 z3 HE
  go_enter Tryd.func19, Tryd.ntmps19
  go_wp2_with fail
  go_quiet (fail)
  go_wp2_with fail
  go_ret
  exact ⟨ret_n HE.out, ⟨rfl, rfl, rfl, Nat.le_refl _, fun _ _ => rfl⟩⟩

end Go.Proofs.YtakfniknkejgpaaDoor.La

/- From a slice of bytes that came in, as the row opens it, to what the walks ask. -/
namespace Go.Proofs.YtakfniknkejgpaaDoor.Sl
open Go.RowKit

def IsRow (k : IntKind) (w : World) (a : Option Addr) (len cap : Nat) (zs : List Int) : Prop :=
 (a = none ∧ len = 0 ∧ cap = 0 ∧ zs = []) ∨
 ∃ x, a = some x ∧ len ≤ cap ∧ cap ≤ maxLen ∧ zs.length = cap ∧ (∀ i, i < zs.length → w.cell? (x.add i) = some (.int k (zs.getD i 0))) ∧ ∀ n ∈ zs, (Lit.int k n).wf = true

theorem rowB_of {w : World} {a : Option Addr} {len cap : Nat} {zs : List Int} (h : IsRow .u8 w a len cap zs) : ∃ xs : List Int, xs.length = len ∧ RowB w (.slice a len cap) xs := by
 rcases h with ⟨rfl, rfl, rfl, rfl⟩ | ⟨x, rfl, hl, _, hz, hcell, hwz⟩
 ·exact ⟨[], rfl, none, 0, rfl, .inl rfl, fun x hx => by cases hx⟩
 ·have hlen : (zs.take len).length = len := by rw [List.length_take]; omega
  refine ⟨zs.take len, hlen, some x, cap, by rw [hlen], ?_, ?_⟩
  ·by_cases h0 : len = 0
   ·exact .inl (by rw [h0]; rfl)
   ·obtain ⟨b, off, spot⟩ := x
    have hc := hcell 0 (by omega)
    have hspot : spot = none := by simpa [Addr.add] using World.cell?_spot hc
    subst hspot
    have hc0 : w.cell? ⟨b, off, none⟩ = some (.int .u8 (zs.getD 0 0)) := by simpa [Addr.add] using hc
    refine .inr ⟨b, off, rfl, by omega, World.block_lt_of_cell? w _ hc0, fun i hi => ?_⟩
    have h1 := hcell i (by omega)
    have h2 : (⟨b, off, none⟩ : Addr).add i = ⟨b, off + i, none⟩ := by unfold Addr.add; split <;> simp_all
    rw [h2] at h1
    rw [h1]
    unfold nth
    rw [List.getD_eq_getElem?_getD, List.getD_eq_getElem?_getD, List.getElem?_take_of_lt (by omega)]
  ·intro n hn
   have := hwz n (List.mem_of_mem_take hn)
   simpa [Lit.wf, IntKind.min, IntKind.max, IntKind.signed, IntKind.bits] using this
end Go.Proofs.YtakfniknkejgpaaDoor.Sl
