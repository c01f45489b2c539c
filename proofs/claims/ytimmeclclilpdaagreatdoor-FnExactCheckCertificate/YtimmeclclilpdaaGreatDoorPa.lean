/- The way up the tree: impl.pathOf. -/
import Derived.Test.YtimmeclclilpdaaGreatDoorCr2
import Derived.Test.YtimmeclclilpdaaGreatDoorTk
namespace Go.Proofs.YtimmeclclilpdaaGreatDoor.Pa
open Go.RowKit Go.Proofs.YtimmeclclilpdaaGreatDoor.Sl Go.Proofs.YtimmeclclilpdaaGreatDoor.By Go.Proofs.YtimmeclclilpdaaGreatDoor.Ap Go.Proofs.YtimmeclclilpdaaGreatDoor.Tx Go.Proofs.YtimmeclclilpdaaGreatDoor.Sh Go.Proofs.YtimmeclclilpdaaGreatDoor.Ho Go.Proofs.YtimmeclclilpdaaGreatDoor.Se Go.Proofs.YtimmeclclilpdaaGreatDoor.Ka Go.Proofs.YtimmeclclilpdaaGreatDoor.Sx Go.Proofs.YtimmeclclilpdaaGreatDoor.Hf Go.Proofs.YtimmeclclilpdaaGreatDoor.Sa Go.Proofs.YtimmeclclilpdaaGreatDoor.Kx Go.Proofs.YtimmeclclilpdaaGreatDoor.Lv Go.Proofs.YtimmeclclilpdaaGreatDoor.Cr

/-- The place beside a place. -/
def sib (k : Nat) : Nat := if k % 2 = 0 then k + 1 else k - 1
theorem xor_one : ∀ k : Nat, k < 8 → bits .xor .i64 (k : Int) 1 = ((sib k : Nat) : Int) := by decide +kernel
theorem sib_lt : ∀ k, k < 8 → ∀ q, q < 4 → k < 2 ^ q → 0 < q → sib k < 2 ^ q := by decide +kernel
def pathN : Nat → List ByteArray → Nat → List ByteArray
  | 0, _, _ => []
  | q + 1, ts, k => tnth ts (sib k) :: pathN q (lvlTo ts (2 ^ q)) (k / 2)
theorem pathN_length : ∀ (q : Nat) (ts : List ByteArray) (k : Nat), (pathN q ts k).length = q
  | 0, _, _ => rfl
  | q + 1, ts, k => by unfold pathN; rw [List.length_cons, pathN_length]

theorem shr_nat (k m : Nat) : (k : Int) / 2 ^ m = ((k / 2 ^ m : Nat) : Int) := by rw [Int.natCast_ediv, Int.natCast_pow]; rfl
set_option maxRecDepth 100000 in
set_option maxHeartbeats 800000 in
theorem pathStep_any (u v : Value) (ps ts : List ByteArray) (c B k : Nat) (w : World) (ho : OwnS w B u ps) (hB : B ≤ w.heap.size) (hr : RowT w v ts) (hm : ps.length < 3) (hc : w.cell? ⟨c, 0, none⟩ = some (.int .i64 (k : Int))) (hk : k < 8) (h2 : 1 < ts.length) (hj : sib (k / 2 ^ ps.length) < ts.length) :
    Calls Tryz.prog 126 #[u, v, .pointer (some ⟨c, 0, none⟩)] w fun e w' => ∃ u', e = .returned u' ∧ OwnS w' B u' (ps ++ [tnth ts (sib (k / 2 ^ ps.length))]) ∧ Kp w w' u u' := by
  obtain ⟨i0, hi0, hz0, hz1, hz2⟩ := info_parts info9
  have HO : Hid (OwnS w B u ps) := ho
  obtain ⟨au, cu, rfl, _⟩ := ho.row
  obtain ⟨av, cv, rfl, hr⟩ := hr
  rcases hr with hr | ⟨b, off, rfl, hcv, hb, hcell⟩
  · rw [hr] at h2; exact absurd h2 (by decide)
  have hl : ((ts.length : Int) == 1) = false := by simp; omega
  have hx : bits .xor .i64 ((k : Int) / 2 ^ ps.length) 1 = ((sib (k / 2 ^ ps.length) : Nat) : Int) := by rw [shr_nat]; exact xor_one _ (Nat.lt_of_le_of_lt (Nat.div_le_self _ _) hk)
  have c1 := hcell _ hj
  have q1 : ((sib (k / 2 ^ ps.length) : Nat) : Int) < (ts.length : Int) := by omega
  have HM : Hid (ps.length + 1 ≤ 1000000000) := by show _ ≤ _; omega
  have hm' : (ps.length : Int) < 3 := by omega
  have hm0 : (0 : Int) ≤ (ps.length : Int) := by omega
  clear hcell ho hj
  generalize tnth ts (sib (k / 2 ^ ps.length)) = z at c1
  generalize sib (k / 2 ^ ps.length) = j at c1 q1 hx
  go_enter Tryz.func126, Tryz.ntmps126
  go_wp2_with (at_builtin; go_must (refine list_txtK (by rfl) _ _ 35 (by rfl) Tryz.underlying35 hi0 hz0 hz1 hz2 B (w.alloc (.cells #[.string z] 9)) _ _ _ [z] (by rfl) (by rfl) (OwnS.below HO.out (bel_new _ _)) (by rw [size_new]; omega) (row_lit w 9 [z] _ 1 rfl rfl) HM.out ?_; intro v5 w5 o5 k5))
  go_ret
  exact ⟨_, rfl, o5, (Kp.of_below _ (bel_new _ _)).trans k5⟩
set_option maxRecDepth 100000 in
theorem pathStop_any (u v : Value) (ts : List ByteArray) (c : Nat) (w : World) (hr : RowT w v ts) (h1 : ts.length = 1) :
    Calls Tryz.prog 126 #[u, v, .pointer (some ⟨c, 0, none⟩)] w fun e w' => e = .returned u ∧ w = w' := by
  obtain ⟨av, cv, rfl, _⟩ := hr
  have hl : ((ts.length : Int) == 1) = true := by simp; omega
  clear h1
  go_enter Tryz.func126, Tryz.ntmps126
  go_wp2_with fail
  go_ret
  exact ⟨rfl, rfl⟩

theorem half_step (k q : Nat) (h : q + 1 ≤ 3) : k / 2 ^ (3 - (q + 1)) / 2 = k / 2 ^ (3 - q) := by
  rw [Nat.div_div_eq_div_mul, ← Nat.pow_succ]
  congr 2
  omega
theorem sib_in : ∀ k : Nat, k < 8 → ∀ q : Nat, q < 3 → sib (k / 2 ^ (3 - (q + 1))) < 2 ^ (q + 1) := by decide +kernel
set_option maxRecDepth 100000 in
set_option maxHeartbeats 800000 in
theorem foldPath_any : ∀ (q : Nat) (ts ps : List ByteArray) (v u : Value) (c B k : Nat) (w : World), q ≤ 3 → ps.length = 3 - q → Row32 q ts → RowT w v ts → Away v u → OwnS w B u ps → B ≤ w.heap.size → c < B → w.cell? ⟨c, 0, none⟩ = some (.int .i64 (k : Int)) → k < 8 → KTab w → 0 < B →
    Calls Tryz.prog 125 #[v, u, .func (Fn.func 126) #[] #[.pointer (some ⟨c, 0, none⟩)]] w fun e w' => ∃ u', e = .returned u' ∧ OwnS w' B u' (ps ++ pathN q ts (k / 2 ^ (3 - q))) ∧ Kp w w' u u'
  | 0, ts, ps, v, u, c, B, k, w, _, _, hr, h, _, ho, _, _, _, _, _, _ => by
    have h1 : ts.length = 1 := hr.1
    have HR : Hid (RowT w v ts) := h
    have HE : Hid (ps ++ pathN 0 ts (k / 2 ^ (3 - 0)) = ps) := by show _ = _; unfold pathN; rw [List.append_nil]
    have HO : Hid (OwnS w B u ps) := ho
    have H1 : Hid (ts.length = 1) := h1
    obtain ⟨a, cap, rfl, _⟩ := h
    have hl : ((ts.length : Int) == 1) = true := by simp; omega
    clear h1 hr ho
    go_enter Tryz.func125, Tryz.ntmps125
    go_wp2_with fail
    refine (pathStop_any u _ ts c w HR.out H1.out).mono ?_
    rintro e w1 ⟨rfl, rfl⟩
    go_wp2_with fail
    go_ret
    rw [HE.out]
    exact ⟨_, rfl, HO.out, Kp.refl _ _⟩
  | q + 1, ts, ps, v, u, c, B, k, w, hq, hps, hr, h, haw, ho, hB, hc, hcell, hk, hK, hG => by
    have ih := foldPath_any q (lvlTo ts (2 ^ q))
    have HI : Hid _ := ih
    have HR : Hid (RowT w v ts) := h
    have HE : Hid (pathN (q + 1) ts (k / 2 ^ (3 - (q + 1))) = tnth ts (sib (k / 2 ^ (3 - (q + 1)))) :: pathN q (lvlTo ts (2 ^ q)) (k / 2 ^ (3 - q))) := by
      show tnth ts (sib (k / 2 ^ (3 - (q + 1)))) :: pathN q (lvlTo ts (2 ^ q)) (k / 2 ^ (3 - (q + 1)) / 2) = _
      rw [half_step k q hq]
    have HU : Hid (Row32 q (lvlTo ts (2 ^ q)) ∧ ts.length = 2 * 2 ^ q ∧ ∀ t ∈ ts, t.size = 32) := ⟨hr.up, by rw [hr.1, Nat.pow_succ]; omega, hr.2⟩
    have hpw := pow_small (show q ≤ 3 by omega)
    have hpos : 0 < 2 ^ q := Nat.pow_pos (by decide)
    have h2 : ts.length = 2 * 2 ^ q := HU.out.2.1
    have HJ : Hid (1 < ts.length ∧ sib (k / 2 ^ ps.length) < ts.length ∧ ps.length < 3 ∧ 2 ^ q ≤ 1000) := ⟨by omega, by rw [hps, hr.1]; exact sib_in k hk q (by omega), by omega, by omega⟩
    have HW : Hid (OwnS w B u ps ∧ B ≤ w.heap.size ∧ c < B ∧ w.cell? ⟨c, 0, none⟩ = some (.int .i64 (k : Int)) ∧ KTab w ∧ Away v u ∧ 0 < B) := ⟨ho, hB, hc, hcell, hK, haw, hG⟩
    have HP : Hid (ps.length = 3 - (q + 1)) := hps
    obtain ⟨a, cap, rfl, _⟩ := h
    have hl : ((ts.length : Int) == 1) = false := by simp; omega
    clear hr hK ih h2 hpos hpw ho hB hc hcell haw hG hps
    go_enter Tryz.func125, Tryz.ntmps125
    go_wp2_with fail
    refine (pathStep_any u _ ps ts c B k w HW.out.1 HW.out.2.1 HR.out HJ.out.2.2.1 HW.out.2.2.2.1 hk HJ.out.1 HJ.out.2.1).mono ?_
    rintro e w1 ⟨u1, rfl, o1, k1⟩
    rw [HP.out] at o1
    have O1 : Hid (OwnS w1 B u1 (ps ++ [tnth ts (sib (k / 2 ^ (3 - (q + 1))))])) := o1
    have K1 : Hid (Kp w w1 u u1 ∧ Below B w w1) := ⟨k1, OwnS.kp k1 HW.out.1 HW.out.2.1⟩
    clear o1 k1
    go_wp2_with fail
    refine (rowAbove_any _ ts (2 ^ q) w1 (RowT.kp HR.out HW.out.2.2.2.2.2.1 K1.out.1) HU.out.2.1 HJ.out.2.2.2 HU.out.2.2 (HW.out.2.2.2.2.1.below K1.out.2 HW.out.2.2.2.2.2.2) (by have := K1.out.2.size; have := HW.out.2.1; have := HW.out.2.2.2.2.2.2; omega)).mono ?_
    rintro e w2 ⟨v2, rfl, o2, b2⟩
    have O2 : Hid (OwnS w2 w1.heap.size v2 (lvlTo ts (2 ^ q))) := o2
    have B2 : Hid (Below w1.heap.size w1 w2) := b2
    have HB2 : Hid (Below B w w2) := K1.out.2.trans (b2.mono (by have := K1.out.2.size; have := HW.out.2.1; omega))
    clear o2 b2
    go_wp2_with fail
    refine (HI.out (ps ++ [tnth ts (sib (k / 2 ^ (3 - (q + 1))))]) v2 u1 c B k w2 (by omega) (by rw [List.length_append, HP.out]; show _ + 1 = _; omega) HU.out.1 O2.out.row ?_ (OwnS.below O1.out B2.out) ?_ HW.out.2.2.1 ?_ hk (HW.out.2.2.2.2.1.below HB2.out HW.out.2.2.2.2.2.2) HW.out.2.2.2.2.2.2).mono ?_
    · intro g hg hu
      have h1 := (OwnS.lt' O2.out g hg).1
      have h2 := (OwnS.lt' O1.out g hu).2
      omega
    · have := HB2.out.size; have := HW.out.2.1; omega
    · exact (HB2.out.cell (p := ⟨c, 0, none⟩) HW.out.2.2.1).trans HW.out.2.2.2.1
    rintro e w3 ⟨u3, rfl, o3, k3⟩
    rw [List.append_assoc, List.singleton_append, ← HE.out] at o3
    go_wp2_with fail
    go_ret
    exact ⟨_, rfl, o3, K1.out.1.trans ((Kp.of_below _ B2.out).trans k3)⟩

set_option maxRecDepth 100000 in
set_option maxHeartbeats 800000 in
theorem pathOf_any (v : Value) (ts : List ByteArray) (k : Nat) (w : World) (hr : Row32 3 ts) (h : RowT w v ts) (hk : k < 8) (hK : KTab w) (hp : 0 < w.heap.size) :
    Calls Tryz.prog 101 #[v, .int .i64 k] w fun e w' => ∃ u, e = .returned u ∧ OwnS w' (w.heap.size + 1) u (pathN 3 ts k) ∧ Below w.heap.size w w' := by
  have HR : Hid (Row32 3 ts ∧ RowT w v ts ∧ KTab w) := ⟨hr, h, hK⟩
  have b0 := bel_new w (.cells #[.int .i64 (k : Int)] 3)
  have HB : Hid (Below w.heap.size w (w.alloc (.cells #[.int .i64 (k : Int)] 3))) := b0
  have HC : Hid ((w.alloc (.cells #[.int .i64 (k : Int)] 3)).cell? ⟨w.heap.size, 0, none⟩ = some (.int .i64 (k : Int))) := (blk_cell (blk_new w #[.int .i64 (k : Int)] 3) 0 rfl).1
  clear hr h hK b0
  go_enter Tryz.func101, Tryz.ntmps101
  go_wp2_with fail
  refine (foldPath_any 3 ts [] v _ w.heap.size (w.heap.size + 1) k _ (by decide) rfl HR.out.1 (HR.out.2.1.below HB.out) (fun g _ hu => by cases hu) (OwnS.nil _ _) (by rw [size_new]; omega) (by omega) HC.out hk (HR.out.2.2.below HB.out hp) (by omega)).mono ?_
  rintro e w2 ⟨u2, rfl, o2, k2⟩
  have b2 := HB.out.trans ((Kp.nil k2).mono (by rw [size_new]; omega))
  have O2 : OwnS w2 (w.heap.size + 1) u2 (pathN 3 ts k) := by have := o2; rw [List.nil_append, Nat.sub_self, Nat.pow_zero, Nat.div_one] at this; exact this
  clear o2 k2
  go_wp2_with fail
  go_ret
  exact ⟨_, rfl, O2, b2⟩
end Go.Proofs.YtimmeclclilpdaaGreatDoor.Pa
