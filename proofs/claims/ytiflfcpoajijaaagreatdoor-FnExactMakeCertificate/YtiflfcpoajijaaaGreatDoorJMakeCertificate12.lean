/- Texts put together: Pa, Bits, Mb, Mb2, Sg. -/
import Derived.Test.YtiflfcpoajijaaaGreatDoorJMakeCertificate11
import Derived.Test.YtiflfcpoajijaaaGreatDoorTk
import Derived.Test.YtiflfcpoajijaaaGreatDoorRows
import Derived.Test.YtiflfcpoajijaaaGreatDoorBy
import Derived.Test.YtiflfcpoajijaaaGreatDoorJMakeCertificate10
import Derived.WalkKit
import Derived.ProofKit
import Derived.Deep.AppendLies
import Derived.WalkSpells
import Derived.Laws.NewBlocks
import Derived.Laws.BytesArg
/- The way up the tree: impl.pathOf. -/
namespace Go.Proofs.YtiflfcpoajijaaaGreatDoor.Pa
open Go.RowKit Go.Proofs.YtiflfcpoajijaaaGreatDoor.Sl Go.Proofs.YtiflfcpoajijaaaGreatDoor.By Go.Proofs.YtiflfcpoajijaaaGreatDoor.Ap Go.Proofs.YtiflfcpoajijaaaGreatDoor.Tx Go.Proofs.YtiflfcpoajijaaaGreatDoor.Sh Go.Proofs.YtiflfcpoajijaaaGreatDoor.Ho Go.Proofs.YtiflfcpoajijaaaGreatDoor.Se Go.Proofs.YtiflfcpoajijaaaGreatDoor.Ka Go.Proofs.YtiflfcpoajijaaaGreatDoor.Sx Go.Proofs.YtiflfcpoajijaaaGreatDoor.Hf Go.Proofs.YtiflfcpoajijaaaGreatDoor.Sa Go.Proofs.YtiflfcpoajijaaaGreatDoor.Kx Go.Proofs.YtiflfcpoajijaaaGreatDoor.Lv Go.Proofs.YtiflfcpoajijaaaGreatDoor.Cr

/-- The place beside a place. -/
def sib (k : Nat) : Nat := if k % 2 = 0 then k + 1 else k - 1
theorem xor_one : ∀ k : Nat, k < 8 → bits .xor .i64 (k : Int) 1 = ((sib k : Nat) : Int) := by decide +kernel
theorem sib_lt : ∀ k, k < 8 → ∀ q, q < 4 → k < 2 ^ q → 0 < q → sib k < 2 ^ q := by decide +kernel
def pathN : Nat → List ByteArray → Nat → List ByteArray
  | 0, _, _ => []
  | q + 1, ts, k => tnth ts (sib k) :: pathN q (lvlTo ts (2 ^ q)) (k / 2)
theorem pathN_length : ∀ (q : Nat) (ts : List ByteArray) (k : Nat), (pathN q ts k).length = q
  | 0, _, _ => rfl
  | q + 1, ts, k => by unfold pathN; rw [List.length_cons, pathN_length]

theorem shr_nat (k m : Nat) : (k : Int) / 2 ^ m = ((k / 2 ^ m : Nat) : Int) := by rw [Int.natCast_ediv, Int.natCast_pow]; rfl
set_option maxRecDepth 100000 in
set_option maxHeartbeats 800000 in
theorem pathStep_any (u v : Value) (ps ts : List ByteArray) (c B k : Nat) (w : World) (ho : OwnS w B u ps) (hB : B ≤ w.heap.size) (hr : RowT w v ts) (hm : ps.length < 3) (hc : w.cell? ⟨c, 0, none⟩ = some (.int .i64 (k : Int))) (hk : k < 8) (h2 : 1 < ts.length) (hj : sib (k / 2 ^ ps.length) < ts.length) :
    Calls Tryz.prog 116 #[u, v, .pointer (some ⟨c, 0, none⟩)] w fun e w' => ∃ u', e = .returned u' ∧ OwnS w' B u' (ps ++ [tnth ts (sib (k / 2 ^ ps.length))]) ∧ Kp w w' u u' := by
  obtain ⟨i0, hi0, hz0, hz1, hz2⟩ := info_parts info9
  have HO : Hid (OwnS w B u ps) := ho
  obtain ⟨au, cu, rfl, _⟩ := ho.row
  obtain ⟨av, cv, rfl, hr⟩ := hr
  rcases hr with hr | ⟨b, off, rfl, hcv, hb, hcell⟩
  · rw [hr] at h2; exact absurd h2 (by decide)
  have hl : ((ts.length : Int) == 1) = false := by simp; omega
  have hx : bits .xor .i64 ((k : Int) / 2 ^ ps.length) 1 = ((sib (k / 2 ^ ps.length) : Nat) : Int) := by rw [shr_nat]; exact xor_one _ (Nat.lt_of_le_of_lt (Nat.div_le_self _ _) hk)
  have c1 := hcell _ hj
  have q1 : ((sib (k / 2 ^ ps.length) : Nat) : Int) < (ts.length : Int) := by omega
  have HM : Hid (ps.length + 1 ≤ 1000000000) := by show _ ≤ _; omega
  have hm' : (ps.length : Int) < 3 := by omega
  have hm0 : (0 : Int) ≤ (ps.length : Int) := by omega
  clear hcell ho hj
  generalize tnth ts (sib (k / 2 ^ ps.length)) = z at c1
  generalize sib (k / 2 ^ ps.length) = j at c1 q1 hx
  go_enter Tryz.func116, Tryz.ntmps116
  go_wp2_with (at_builtin; go_must (refine list_txtK (by rfl) _ _ 35 (by rfl) Tryz.underlying35 hi0 hz0 hz1 hz2 B (w.alloc (.cells #[.string z] 9)) _ _ _ [z] (by rfl) (by rfl) (OwnS.below HO.out (bel_new _ _)) (by rw [size_new]; omega) (row_lit w 9 [z] _ 1 rfl rfl) HM.out ?_; intro v5 w5 o5 k5))
  go_ret
  exact ⟨_, rfl, o5, (Kp.of_below _ (bel_new _ _)).trans k5⟩
set_option maxRecDepth 100000 in
theorem pathStop_any (u v : Value) (ts : List ByteArray) (c : Nat) (w : World) (hr : RowT w v ts) (h1 : ts.length = 1) :
    Calls Tryz.prog 116 #[u, v, .pointer (some ⟨c, 0, none⟩)] w fun e w' => e = .returned u ∧ w = w' := by
  obtain ⟨av, cv, rfl, _⟩ := hr
  have hl : ((ts.length : Int) == 1) = true := by simp; omega
  clear h1
  go_enter Tryz.func116, Tryz.ntmps116
  go_wp2_with fail
  go_ret
  exact ⟨rfl, rfl⟩

theorem half_step (k q : Nat) (h : q + 1 ≤ 3) : k / 2 ^ (3 - (q + 1)) / 2 = k / 2 ^ (3 - q) := by
  rw [Nat.div_div_eq_div_mul, ← Nat.pow_succ]
  congr 2
  omega
theorem sib_in : ∀ k : Nat, k < 8 → ∀ q : Nat, q < 3 → sib (k / 2 ^ (3 - (q + 1))) < 2 ^ (q + 1) := by decide +kernel
set_option maxRecDepth 100000 in
set_option maxHeartbeats 800000 in
theorem foldPath_any : ∀ (q : Nat) (ts ps : List ByteArray) (v u : Value) (c B k : Nat) (w : World), q ≤ 3 → ps.length = 3 - q → Row32 q ts → RowT w v ts → Away v u → OwnS w B u ps → B ≤ w.heap.size → c < B → w.cell? ⟨c, 0, none⟩ = some (.int .i64 (k : Int)) → k < 8 → KTab w → 0 < B →
    Calls Tryz.prog 115 #[v, u, .func (Fn.func 116) #[] #[.pointer (some ⟨c, 0, none⟩)]] w fun e w' => ∃ u', e = .returned u' ∧ OwnS w' B u' (ps ++ pathN q ts (k / 2 ^ (3 - q))) ∧ Kp w w' u u'
  | 0, ts, ps, v, u, c, B, k, w, _, _, hr, h, _, ho, _, _, _, _, _, _ => by
    have h1 : ts.length = 1 := hr.1
    have HR : Hid (RowT w v ts) := h
    have HE : Hid (ps ++ pathN 0 ts (k / 2 ^ (3 - 0)) = ps) := by show _ = _; unfold pathN; rw [List.append_nil]
    have HO : Hid (OwnS w B u ps) := ho
    have H1 : Hid (ts.length = 1) := h1
    obtain ⟨a, cap, rfl, _⟩ := h
    have hl : ((ts.length : Int) == 1) = true := by simp; omega
    clear h1 hr ho
    go_enter Tryz.func115, Tryz.ntmps115
    go_wp2_with fail
    refine (pathStop_any u _ ts c w HR.out H1.out).mono ?_
    rintro e w1 ⟨rfl, rfl⟩
    go_wp2_with fail
    go_ret
    rw [HE.out]
    exact ⟨_, rfl, HO.out, Kp.refl _ _⟩
  | q + 1, ts, ps, v, u, c, B, k, w, hq, hps, hr, h, haw, ho, hB, hc, hcell, hk, hK, hG => by
    have ih := foldPath_any q (lvlTo ts (2 ^ q))
    have HI : Hid _ := ih
    have HR : Hid (RowT w v ts) := h
    have HE : Hid (pathN (q + 1) ts (k / 2 ^ (3 - (q + 1))) = tnth ts (sib (k / 2 ^ (3 - (q + 1)))) :: pathN q (lvlTo ts (2 ^ q)) (k / 2 ^ (3 - q))) := by
      show tnth ts (sib (k / 2 ^ (3 - (q + 1)))) :: pathN q (lvlTo ts (2 ^ q)) (k / 2 ^ (3 - (q + 1)) / 2) = _
      rw [half_step k q hq]
    have HU : Hid (Row32 q (lvlTo ts (2 ^ q)) ∧ ts.length = 2 * 2 ^ q ∧ ∀ t ∈ ts, t.size = 32) := ⟨hr.up, by rw [hr.1, Nat.pow_succ]; omega, hr.2⟩
    have hpw := pow_small (show q ≤ 3 by omega)
    have hpos : 0 < 2 ^ q := Nat.pow_pos (by decide)
    have h2 : ts.length = 2 * 2 ^ q := HU.out.2.1
    have HJ : Hid (1 < ts.length ∧ sib (k / 2 ^ ps.length) < ts.length ∧ ps.length < 3 ∧ 2 ^ q ≤ 1000) := ⟨by omega, by rw [hps, hr.1]; exact sib_in k hk q (by omega), by omega, by omega⟩
    have HW : Hid (OwnS w B u ps ∧ B ≤ w.heap.size ∧ c < B ∧ w.cell? ⟨c, 0, none⟩ = some (.int .i64 (k : Int)) ∧ KTab w ∧ Away v u ∧ 0 < B) := ⟨ho, hB, hc, hcell, hK, haw, hG⟩
    have HP : Hid (ps.length = 3 - (q + 1)) := hps
    obtain ⟨a, cap, rfl, _⟩ := h
    have hl : ((ts.length : Int) == 1) = false := by simp; omega
    clear hr hK ih h2 hpos hpw ho hB hc hcell haw hG hps
    go_enter Tryz.func115, Tryz.ntmps115
    go_wp2_with fail
    refine (pathStep_any u _ ps ts c B k w HW.out.1 HW.out.2.1 HR.out HJ.out.2.2.1 HW.out.2.2.2.1 hk HJ.out.1 HJ.out.2.1).mono ?_
    rintro e w1 ⟨u1, rfl, o1, k1⟩
    rw [HP.out] at o1
    have O1 : Hid (OwnS w1 B u1 (ps ++ [tnth ts (sib (k / 2 ^ (3 - (q + 1))))])) := o1
    have K1 : Hid (Kp w w1 u u1 ∧ Below B w w1) := ⟨k1, OwnS.kp k1 HW.out.1 HW.out.2.1⟩
    clear o1 k1
    go_wp2_with fail
    refine (rowAbove_any _ ts (2 ^ q) w1 (RowT.kp HR.out HW.out.2.2.2.2.2.1 K1.out.1) HU.out.2.1 HJ.out.2.2.2 HU.out.2.2 (HW.out.2.2.2.2.1.below K1.out.2 HW.out.2.2.2.2.2.2) (by have := K1.out.2.size; have := HW.out.2.1; have := HW.out.2.2.2.2.2.2; omega)).mono ?_
    rintro e w2 ⟨v2, rfl, o2, b2⟩
    have O2 : Hid (OwnS w2 w1.heap.size v2 (lvlTo ts (2 ^ q))) := o2
    have B2 : Hid (Below w1.heap.size w1 w2) := b2
    have HB2 : Hid (Below B w w2) := K1.out.2.trans (b2.mono (by have := K1.out.2.size; have := HW.out.2.1; omega))
    clear o2 b2
    go_wp2_with fail
    refine (HI.out (ps ++ [tnth ts (sib (k / 2 ^ (3 - (q + 1))))]) v2 u1 c B k w2 (by omega) (by rw [List.length_append, HP.out]; show _ + 1 = _; omega) HU.out.1 O2.out.row ?_ (OwnS.below O1.out B2.out) ?_ HW.out.2.2.1 ?_ hk (HW.out.2.2.2.2.1.below HB2.out HW.out.2.2.2.2.2.2) HW.out.2.2.2.2.2.2).mono ?_
    · intro g hg hu
      have h1 := (OwnS.lt' O2.out g hg).1
      have h2 := (OwnS.lt' O1.out g hu).2
      omega
    · have := HB2.out.size; have := HW.out.2.1; omega
    · exact (HB2.out.cell (p := ⟨c, 0, none⟩) HW.out.2.2.1).trans HW.out.2.2.2.1
    rintro e w3 ⟨u3, rfl, o3, k3⟩
    rw [List.append_assoc, List.singleton_append, ← HE.out] at o3
    go_wp2_with fail
    go_ret
    exact ⟨_, rfl, o3, K1.out.1.trans ((Kp.of_below _ B2.out).trans k3)⟩

set_option maxRecDepth 100000 in
set_option maxHeartbeats 800000 in
theorem pathOf_any (v : Value) (ts : List ByteArray) (k : Nat) (w : World) (hr : Row32 3 ts) (h : RowT w v ts) (hk : k < 8) (hK : KTab w) (hp : 0 < w.heap.size) :
    Calls Tryz.prog 93 #[v, .int .i64 k] w fun e w' => ∃ u, e = .returned u ∧ OwnS w' (w.heap.size + 1) u (pathN 3 ts k) ∧ Below w.heap.size w w' := by
  have HR : Hid (Row32 3 ts ∧ RowT w v ts ∧ KTab w) := ⟨hr, h, hK⟩
  have b0 := bel_new w (.cells #[.int .i64 (k : Int)] 3)
  have HB : Hid (Below w.heap.size w (w.alloc (.cells #[.int .i64 (k : Int)] 3))) := b0
  have HC : Hid ((w.alloc (.cells #[.int .i64 (k : Int)] 3)).cell? ⟨w.heap.size, 0, none⟩ = some (.int .i64 (k : Int))) := (blk_cell (blk_new w #[.int .i64 (k : Int)] 3) 0 rfl).1
  clear hr h hK b0
  go_enter Tryz.func93, Tryz.ntmps93
  go_wp2_with fail
  refine (foldPath_any 3 ts [] v _ w.heap.size (w.heap.size + 1) k _ (by decide) rfl HR.out.1 (HR.out.2.1.below HB.out) (fun g _ hu => by cases hu) (OwnS.nil _ _) (by rw [size_new]; omega) (by omega) HC.out hk (HR.out.2.2.below HB.out hp) (by omega)).mono ?_
  rintro e w2 ⟨u2, rfl, o2, k2⟩
  have b2 := HB.out.trans ((Kp.nil k2).mono (by rw [size_new]; omega))
  have O2 : OwnS w2 (w.heap.size + 1) u2 (pathN 3 ts k) := by have := o2; rw [List.nil_append, Nat.sub_self, Nat.pow_zero, Nat.div_one] at this; exact this
  clear o2 k2
  go_wp2_with fail
  go_ret
  exact ⟨_, rfl, O2, b2⟩
end Go.Proofs.YtiflfcpoajijaaaGreatDoor.Pa

namespace Go.Proofs.YtiflfcpoajijaaaGreatDoor.Bt
open Go.RowKit
theorem info5 : (Tryz.prog.info? 5).map (fun i => (i.zero, i.size, i.bytes)) = some (some (.int .u8 0), 1, 1) := by kernel_rfl

def bitI (n k : Nat) : Int := (48 + bits BinOp.and IntKind.u8 ((n : Int) / 2 ^ k) 1) % 256
def bits8 (n : Nat) : List Int := [bitI n 7, bitI n 6, bitI n 5, bitI n 4, bitI n 3, bitI n 2, bitI n 1, bitI n 0]
def bitsTo (s : ByteArray) (k : Nat) : List Int := (s.data.toList.take k).flatMap fun b => bits8 b.toNat
theorem bitsTo_length (s : ByteArray) (k : Nat) (h : k ≤ s.size) : (bitsTo s k).length = 8 * k := by
  unfold bitsTo
  rw [List.length_flatMap]
  have : ((s.data.toList.take k).map fun b => (bits8 b.toNat).length) = (s.data.toList.take k).map fun _ => 8 := rfl
  rw [this]
  rw [List.map_const', List.sum_replicate_nat, List.length_take]
  have : s.data.toList.length = s.size := by simp
  omega
theorem bitsTo_succ (s : ByteArray) (k : Nat) (h : k < s.size) : bitsTo s (k + 1) = bitsTo s k ++ bits8 (s[k]'h).toNat := by
  unfold bitsTo
  have e : s.data.toList.take (k + 1) = s.data.toList.take k ++ [s[k]] := by
    rw [List.take_succ_eq_append_getElem (by simpa using h)]; rfl
  rw [e, List.flatMap_append]
  simp

def B8 (n j : Nat) : Prop := (bits8 n).take (j + 1) = (bits8 n).take j ++ [(48 + bits BinOp.and IntKind.u8 ((n : Int) / 2 ^ (7 - j)) 1) % 256]
theorem b8 (n j : Nat) (h : j < 8) : B8 n j := by
  unfold B8
  match j, h with
  | 0, _ => rfl
  | 1, _ => rfl
  | 2, _ => rfl
  | 3, _ => rfl
  | 4, _ => rfl
  | 5, _ => rfl
  | 6, _ => rfl
  | 7, _ => rfl

def zeros256 : Array Value := Array.replicate 256 (.int .u8 0)
theorem zero36 (w : World) : Sem.run Tryz.prog (zeroValue 131) w = .ok (.agg zeros256) w := by kernel_rfl
theorem flat_at (f : UInt8 → List Int) (hf : ∀ b, (f b).length = 8) : ∀ (l : List UInt8) (i : Nat), (l.flatMap f)[i]? = (l[i / 8]?).bind fun b => (f b)[i % 8]?
  | [], i => by simp
  | b :: l, i => by
    rw [List.flatMap_cons]
    by_cases h : i < 8
    · rw [List.getElem?_append_left (by rw [hf]; exact h), Nat.div_eq_of_lt h, Nat.mod_eq_of_lt h]
      simp
    · rw [List.getElem?_append_right (by rw [hf]; omega), hf, flat_at f hf l (i - 8), show i / 8 = (i - 8) / 8 + 1 by omega, show (i - 8) % 8 = i % 8 by omega]
      simp
theorem bits8_at (n r : Nat) (h : r < 8) : (bits8 n)[r]? = some (bitI n (7 - r)) := by
  match r, h with
  | 0, _ => rfl
  | 1, _ => rfl
  | 2, _ => rfl
  | 3, _ => rfl
  | 4, _ => rfl
  | 5, _ => rfl
  | 6, _ => rfl
  | 7, _ => rfl
theorem bitsTo_at (s : ByteArray) (hs : s.size = 32) (i : Nat) (h : i / 8 < s.size) : (bitsTo s 32).getD i 0 = bitI (s[i / 8]'h).toNat (7 - i % 8) := by
  have hl : s.data.toList.length = s.size := by simp
  have e : s.data.toList.take 32 = s.data.toList := List.take_of_length_le (by omega)
  have e2 : s.data.toList[i / 8]? = some (s[i / 8]'h) := by rw [List.getElem?_eq_getElem (by omega)]; rfl
  unfold bitsTo
  rw [e, List.getD_eq_getElem?_getD, flat_at _ (fun _ => rfl), e2]
  simp [bits8_at _ (i % 8) (Nat.mod_lt _ (by decide))]

set_option maxRecDepth 100000 in
set_option maxHeartbeats 400000 in
theorem implHashBits_yes (s : ByteArray) (w : World) (hs : s.size = 32) :
    Calls Tryz.prog 92 #[.string s] w fun e w' => e = .returned (.tuple #[.string (strOfNums (bitsTo s 32)), .int .i64 0]) ∧ Below w.heap.size w w' := by
  have hs1 : (s.size : Int) ≤ 32 := by omega
  have hs2 : ((s.size : Int) != 32) = false := by simp; omega
  have HS : Hid (s.size = 32) := hs
  have hz := zero36 w
  clear hs
  go_enter Tryz.func92, Tryz.ntmps92
  go_wp2_with (go_at_call 65; refine (Hf.hashFault_ok s _ HS.out).mono ?_; rintro e w' ⟨rfl, rfl⟩)
  clear hz
  go_loopw [12] (fun i wr => ∃ k : Nat, ∃ A : Array Value, k ≤ 256 ∧ i = .int .i64 k ∧ wr = w.alloc (.cells A 131) ∧ Hid (A.size = 256 ∧ ∀ j, j < k → A[j]? = some (.int .u8 ((bitsTo s 32).getD j 0)))) (fun i _ => 256 - (intOf i).toNat)
  case atStart => exact ⟨0, zeros256, by omega, rfl, rfl, by unfold zeros256; simp, fun j hj => absurd hj (by omega)⟩
  case round =>
    obtain ⟨k, A, hk, rfl, rfl, hA⟩ := hrel
    by_cases hlt : k < 256
    · have h1 : (k : Int) / 8 < s.size := by have := HS.out; omega
      have h2 : k / 8 < s.size := by have := HS.out; omega
      obtain ⟨x, hx⟩ : ∃ x, A[k]? = some x := ⟨_, Array.getElem?_eq_getElem (by rw [hA.out.1]; exact hlt)⟩
      have hA' : Hid ((A.setIfInBounds k (.int .u8 ((48 + bits BinOp.and IntKind.u8 (((s[k / 8]'h2).toNat : Int) / 2 ^ (7 - k % 8)) 1) % 256))).size = 256 ∧ ∀ j, j < k + 1 → (A.setIfInBounds k (.int .u8 ((48 + bits BinOp.and IntKind.u8 (((s[k / 8]'h2).toNat : Int) / 2 ^ (7 - k % 8)) 1) % 256)))[j]? = some (.int .u8 ((bitsTo s 32).getD j 0))) := by
        refine ⟨by rw [Array.size_setIfInBounds]; exact hA.out.1, fun j hj => ?_⟩
        rw [Array.getElem?_setIfInBounds]
        by_cases e : k = j
        · subst e
          rw [if_pos rfl, if_pos (by rw [hA.out.1]; exact hlt), bitsTo_at s HS.out k h2]
          rfl
        · rw [if_neg e]
          exact hA.out.2 j (by omega)
      go_wp2_with fail
      go_roundw
      case rel => exact ⟨k + 1, _, by omega, by go_num, rfl, hA'⟩
      case measure => simp [intOf]; omega
    · obtain rfl : k = 256 := by omega
      have hcv : (convert 22 9 (.slice (some ⟨w.heap.size, 0, none⟩) 256 256)).run Tryz.prog (w.alloc (.cells A 131)) = .ok (.string (strOfNums (bitsTo s 32))) (w.alloc (.cells A 131)) := by
        refine run_convert_bytes_arg _ 22 5 Tryz.underlying22 Tryz.underlying5 w.heap.size 0 256 256 _ (bitsTo_length s 32 (by have := HS.out; omega)) (fun i hi => ?_) 9 Tryz.underlying9
        rw [Nat.zero_add, World.cell?_alloc_at _ _ _ _ rfl]
        exact hA.out.2 i hi
      go_wp2_with fail
      go_ret2
      exact ⟨rfl, (Below.refl _ _).alloc (Nat.le_refl _) _⟩

theorem ret_code {s : ByteArray} {a b : Int} (h : a = b) : Ending.returned (.tuple #[.string s, .int .i64 a]) = .returned (.tuple #[.string s, .int .i64 b]) := by rw [h]
/-- Both HashBits, at a text that is no hash. -/
def badCode (s : ByteArray) : Int := if 65536 < s.size then 2 else 1
end Go.Proofs.YtiflfcpoajijaaaGreatDoor.Bt

/- MessageBits, of the program and of the specification. -/
namespace Go.Proofs.YtiflfcpoajijaaaGreatDoor.Mb
open Go.RowKit Go.Proofs.YtiflfcpoajijaaaGreatDoor.Sl Go.Proofs.YtiflfcpoajijaaaGreatDoor.By Go.Proofs.YtiflfcpoajijaaaGreatDoor.Ap Go.Proofs.YtiflfcpoajijaaaGreatDoor.Tx Go.Proofs.YtiflfcpoajijaaaGreatDoor.Sh Go.Proofs.YtiflfcpoajijaaaGreatDoor.Ho Go.Proofs.YtiflfcpoajijaaaGreatDoor.Se Go.Proofs.YtiflfcpoajijaaaGreatDoor.Ka Go.Proofs.YtiflfcpoajijaaaGreatDoor.Sx Go.Proofs.YtiflfcpoajijaaaGreatDoor.Hf

/-- The sign of one bit of a hash; those of its first bits. -/
def bitC (h : ByteArray) (k : Nat) : Int := Bt.bitI (h.data.toList.getD (k / 8) 0).toNat (7 - k % 8)
def bitsU (h : ByteArray) : Nat → List Int
  | 0 => []
  | k + 1 => bitsU h k ++ [bitC h k]
theorem bitsU_length (h : ByteArray) : ∀ k, (bitsU h k).length = k
  | 0 => rfl
  | k + 1 => by unfold bitsU; rw [List.length_append, bitsU_length h k]; rfl
theorem bitC_at (h : ByteArray) (k : Nat) (hk : k / 8 < h.size) : bitC h k = Bt.bitI (h[k / 8]'hk).toNat (7 - k % 8) := by
  unfold bitC
  have hk' : k / 8 < h.data.toList.length := by simpa using hk
  rw [List.getD_eq_getElem?_getD, List.getElem?_eq_getElem hk']
  rfl
theorem bitI_eq (n k : Nat) (hn : n < 256) : Bt.bitI n k = 48 + ((n / 2 ^ k % 2 : Nat) : Int) := by
  have hq : n / 2 ^ k < 256 := Nat.lt_of_le_of_lt (Nat.div_le_self _ _) hn
  have e : (n : Int) / 2 ^ k = ((n / 2 ^ k : Nat) : Int) := by rw [Int.natCast_ediv, Int.natCast_pow]; rfl
  unfold Bt.bitI
  rw [e]
  generalize n / 2 ^ k = m at hq
  revert m
  decide +kernel
theorem bitI_two (n k : Nat) (hn : n < 256) : Bt.bitI n k = 48 ∨ Bt.bitI n k = 49 := by
  rw [bitI_eq n k hn]
  have : n / 2 ^ k % 2 < 2 := Nat.mod_lt _ (by decide)
  generalize n / 2 ^ k % 2 = m at this
  omega
theorem bitC_two (h : ByteArray) (k : Nat) : bitC h k = 48 ∨ bitC h k = 49 := bitI_two _ _ (UInt8.toNat_lt _)
theorem bitsU_range (h : ByteArray) (k : Nat) : ∀ z ∈ bitsU h k, 0 ≤ z ∧ z ≤ 255 := by
  induction k with
  | zero => intro z hz; cases hz
  | succ k ih =>
    intro z hz
    unfold bitsU at hz
    rcases List.mem_append.1 hz with hz | hz
    · exact ih z hz
    · rw [List.mem_singleton.1 hz]
      rcases bitC_two h k with e | e <;> rw [e] <;> decide
theorem bitsU_at (h : ByteArray) : ∀ (n k : Nat), k < n → (bitsU h n)[k]? = some (bitC h k)
  | 0, k, hk => by omega
  | n + 1, k, hk => by
    unfold bitsU
    by_cases e : k = n
    · subst e
      rw [List.getElem?_append_right (by rw [bitsU_length]; exact Nat.le_refl _), bitsU_length, Nat.sub_self]
      rfl
    · rw [List.getElem?_append_left (by rw [bitsU_length]; omega)]
      exact bitsU_at h n k (by omega)
/-- The hash whose bits a text shows; its bits as a text. -/
def dig (msg : ByteArray) : ByteArray := hashS (bys bDigest ++ bys msg)
def mbits (msg : ByteArray) : ByteArray := strOfNums (bitsU (dig msg) 32)
theorem dig_len (msg : ByteArray) (h : msg.size ≤ 65530) : (bys bDigest ++ bys msg).length ≤ 65536 := by
  rw [List.length_append, bys_length, bys_length]
  have : bDigest.size = 6 := rfl
  omega
theorem dig_size (msg : ByteArray) (h : msg.size ≤ 65530) : (dig msg).size = 32 := hash_size _ (dig_len msg h)
theorem mbits_size (msg : ByteArray) : (mbits msg).size = 32 := by unfold mbits; rw [strOfNums_size, bitsU_length]
/-- The first 32 of all 256 signs. -/
theorem cut_bits (s : ByteArray) (hs : s.size = 32) : (strOfNums (Bt.bitsTo s 32)).extract 0 32 = strOfNums (bitsU s 32) := by
  have e : (Bt.bitsTo s 32).take 32 = bitsU s 32 := by
    apply List.ext_getElem?
    intro k
    by_cases hk : k < 32
    · have h8 : k / 8 < s.size := by omega
      have hl := Bt.bitsTo_length s 32 (by omega)
      have h1 := Bt.bitsTo_at s hs k h8
      rw [List.getD_eq_getElem?_getD, List.getElem?_eq_getElem (by omega)] at h1
      rw [bitsU_at s 32 k hk, List.getElem?_take_of_lt hk, List.getElem?_eq_getElem (by omega), bitC_at s k h8, ← h1]
      rfl
    · rw [List.getElem?_eq_none (by rw [List.length_take]; omega), List.getElem?_eq_none (by rw [bitsU_length]; omega)]
  apply ByteArray.ext
  apply Array.toList_inj.1
  rw [strOfNums_data, ← e, List.map_take, ← strOfNums_data]
  simp [ByteArray.data_extract]

def mbCode (msg : ByteArray) : Int := if 65530 < msg.size then 2 else 0
def mbOut (msg : ByteArray) : ByteArray := if 65530 < msg.size then ⟨#[]⟩ else mbits msg

set_option maxRecDepth 100000 in
set_option maxHeartbeats 400000 in
theorem implMessageBits_any (msg : ByteArray) (w : World) (hK : KTab w) (hp : 0 < w.heap.size) :
    Calls Tryz.prog 59 #[.string msg] w fun e w' => e = .returned (.tuple #[.string (mbOut msg), .int .i64 (mbCode msg)]) ∧ Below w.heap.size w w' := by
  by_cases hb : 65530 < msg.size
  · have HC : Hid (mbOut msg = ⟨#[]⟩ ∧ mbCode msg = 2) := ⟨if_pos hb, if_pos hb⟩
    have hb' : (65530 : Int) < (msg.size : Int) := by omega
    go_enter Tryz.func59, Tryz.ntmps59
    go_wp2_with fail
    go_ret2
    rw [HC.out.1, HC.out.2]
    exact ⟨rfl, Below.refl _ _⟩
  · have HC : Hid (mbOut msg = mbits msg ∧ mbCode msg = 0) := ⟨if_neg hb, if_neg hb⟩
    have hb' : (msg.size : Int) ≤ 65530 := by omega
    have GK : Hid (KTab w) := hK
    have HE : Hid (cat [bDigest, msg] = bys bDigest ++ bys msg) := by
      show _ = _
      unfold cat
      simp only [List.flatMap_cons, List.flatMap_nil, List.append_nil]
    have HL : Hid ((bys bDigest ++ bys msg).length ≤ 65536) := dig_len msg (by omega)
    have HD : Hid (hashS (bys bDigest ++ bys msg) = dig msg ∧ (dig msg).size = 32) := ⟨rfl, dig_size msg (by omega)⟩
    have HM : Hid (mbits msg = strOfNums (bitsU (dig msg) 32)) := rfl
    clear hK
    go_enter Tryz.func59, Tryz.ntmps59
    go_wp2_with fail
    refine (hashOf_lit w _ 2 rfl _ [bDigest, msg] rfl rfl (by decide) (by decide) (by rw [HE.out]; have := HL.out; omega) GK.out hp).mono ?_
    rintro e w3 ⟨rfl, b3⟩
    rw [HE.out, HD.out.1]
    obtain ⟨d, HDD⟩ : ∃ d, Hid (dig msg = d) := ⟨_, rfl⟩
    rw [HDD.out]
    have HZ : Hid (d.size = 32) := by show _ = _; rw [← HDD.out]; exact HD.out.2
    have HX := cut_bits d HZ.out
    have hsz : (strOfNums (Bt.bitsTo d 32)).size = 256 := by rw [strOfNums_size, Bt.bitsTo_length d 32 (by have := HZ.out; omega)]
    go_wp2_with fail
    refine (Bt.implHashBits_yes d _ HZ.out).mono ?_
    rintro e w4 ⟨rfl, b4⟩
    have b5 := b3.trans (b4.mono b3.size)
    clear b3 b4
    generalize strOfNums (Bt.bitsTo d 32) = q at hsz HX
    have h32 : (32 : Int) ≤ (q.size : Int) := by omega
    go_wp2_with fail
    go_ret2
    rw [HC.out.1, HC.out.2, HM.out, HDD.out, ← HX]
    exact ⟨rfl, b5⟩
end Go.Proofs.YtiflfcpoajijaaaGreatDoor.Mb

/- The specification's MessageBits. -/
namespace Go.Proofs.YtiflfcpoajijaaaGreatDoor.Mb
open Go.RowKit Go.Proofs.YtiflfcpoajijaaaGreatDoor.Sl Go.Proofs.YtiflfcpoajijaaaGreatDoor.By Go.Proofs.YtiflfcpoajijaaaGreatDoor.Ap Go.Proofs.YtiflfcpoajijaaaGreatDoor.Tx Go.Proofs.YtiflfcpoajijaaaGreatDoor.Sh Go.Proofs.YtiflfcpoajijaaaGreatDoor.Ho Go.Proofs.YtiflfcpoajijaaaGreatDoor.Se Go.Proofs.YtiflfcpoajijaaaGreatDoor.Ka Go.Proofs.YtiflfcpoajijaaaGreatDoor.Sx Go.Proofs.YtiflfcpoajijaaaGreatDoor.Hf

theorem own_none (w w1 : World) (hb : Below w.heap.size w w1) : OwnB 5 (w1.alloc (.cells #[] 5)) w.heap.size (.slice (some ⟨w1.heap.size, 0, none⟩) 0 0) [] := own_made _ _ _ _ _ hb.size (by simp [maxLen]) rfl
set_option maxRecDepth 100000 in
set_option maxHeartbeats 400000 in
theorem l03Bits_any (msg : ByteArray) (w : World) (hm : msg.size ≤ 65530) :
    Calls Tryz.prog 73 #[.string msg] w fun e w' => e = .returned (.string (mbits msg)) ∧ Below w.heap.size w w' := by
  obtain ⟨i0, hi, hz0, hz1, hz2⟩ := info_parts info5
  have HE : Hid (bys (bDigest ++ msg) = bys bDigest ++ bys msg) := bys_append _ _
  have HL : Hid ((bys bDigest ++ bys msg).length ≤ 65536) := dig_len msg hm
  have HD : Hid (hashS (bys bDigest ++ bys msg) = dig msg ∧ (dig msg).size = 32) := ⟨rfl, dig_size msg hm⟩
  have HM : Hid (mbits msg = strOfNums (bitsU (dig msg) 32)) := rfl
  have hA : ¬ 9223372036854775807 < (⟨#[100, 105, 103, 101, 115, 116]⟩ : ByteArray).size + msg.size := by have : (⟨#[100, 105, 103, 101, 115, 116]⟩ : ByteArray).size = 6 := rfl; omega
  have hA' : ¬ 9223372036854775807 < 6 + msg.size := by omega
  obtain ⟨v2, w2, hc2, r2, b2⟩ := bytes_run (bDigest ++ msg) w
  have hc2' : (convert 9 22 (.string ((⟨#[100, 105, 103, 101, 115, 116]⟩ : ByteArray) ++ msg))).run Tryz.prog w = .ok v2 w2 := hc2
  have R2 : Hid (RowB w2 v2 (bys (bDigest ++ msg))) := r2
  have B2 : Hid (Below w.heap.size w w2) := b2
  clear hc2 r2 b2
  go_enter Tryz.func73, Tryz.ntmps73
  go_wp2_with fail
  refine (hash1_any v2 _ w2 R2.out (by rw [HE.out]; exact HL.out)).mono ?_
  rintro e w3 ⟨rfl, b3⟩
  rw [HE.out, HD.out.1]
  obtain ⟨d, HDD⟩ : ∃ d, Hid (dig msg = d) := ⟨_, rfl⟩
  rw [HDD.out]
  have HZ : Hid (d.size = 32) := by show _ = _; rw [← HDD.out]; exact HD.out.2
  have B3 : Hid (Below w.heap.size w w3) := B2.out.trans (b3.mono B2.out.size)
  clear b3
  go_wp2_with fail
  go_loopw [4, 5] (fun u j wr => ∃ k : Nat, k ≤ 32 ∧ j = .int .i64 k ∧ OwnB 5 wr w.heap.size u (bitsU d k) ∧ Below w.heap.size w wr ∧ w.heap.size ≤ wr.heap.size) (fun _ j _ => 32 - (intOf j).toNat)
  case atStart => exact ⟨0, by omega, rfl, own_none w w3 B3.out, B3.out.alloc B3.out.size _, by have := B3.out.size; simp; omega⟩
  case round =>
    obtain ⟨k, hk, rfl, ho, hb, hB⟩ := hrel
    by_cases hlt : k < 32
    · have h1 : (k : Int) / 8 < d.size := by have := HZ.out; omega
      have h2 : k / 8 < d.size := by have := HZ.out; omega
      have HS : Hid (bitsU d (k + 1) = bitsU d k ++ [(48 + bits BinOp.and IntKind.u8 (((d[k / 8]'h2).toNat : Int) / 2 ^ (7 - k % 8)) 1) % 256]) := by
        show _ = _
        rw [show bitsU d (k + 1) = bitsU d k ++ [bitC d k] from rfl, bitC_at d k h2]
        rfl
      have HN : Hid ((bitsU d k).length + 1 ≤ 140737488355328) := by show _ ≤ _; rw [bitsU_length]; omega
      go_wp2_with (at_builtin; go_must (refine wpList_append_byte (by rfl) _ _ 22 (by rfl) 5 i0 Tryz.underlying22 hi hz0 hz1 hz2 w.heap.size w wr _ _ _ (by rfl) ho hb hB (by rfl) HN.out ?_; intro v5 w5 o5 b5 s5))
      rw [← HS.out] at o5
      exact ⟨⟨k + 1, by omega, by go_num, o5, b5, s5⟩, by simp [intOf]; omega⟩
    · obtain rfl : k = 32 := by omega
      have hcv := By.run_convert_own (P := Tryz.prog) wr w.heap.size 22 5 9 Tryz.underlying22 Tryz.underlying5 Tryz.underlying9 u4 _ ho
      go_wp2_with fail
      go_ret
      rw [HM.out, HDD.out]
      exact ⟨rfl, hb⟩
end Go.Proofs.YtiflfcpoajijaaaGreatDoor.Mb

/- A signature that is being made: its block and its three lists. -/
namespace Go.Proofs.YtiflfcpoajijaaaGreatDoor.Sg
open Go.RowKit Go.Proofs.YtiflfcpoajijaaaGreatDoor.Sl Go.Proofs.YtiflfcpoajijaaaGreatDoor.By Go.Proofs.YtiflfcpoajijaaaGreatDoor.Ap Go.Proofs.YtiflfcpoajijaaaGreatDoor.Tx Go.Proofs.YtiflfcpoajijaaaGreatDoor.Sh Go.Proofs.YtiflfcpoajijaaaGreatDoor.Ho Go.Proofs.YtiflfcpoajijaaaGreatDoor.Se Go.Proofs.YtiflfcpoajijaaaGreatDoor.Ka Go.Proofs.YtiflfcpoajijaaaGreatDoor.Sx Go.Proofs.YtiflfcpoajijaaaGreatDoor.Hf Go.Proofs.YtiflfcpoajijaaaGreatDoor.Sa Go.Proofs.YtiflfcpoajijaaaGreatDoor.Kx Go.Proofs.YtiflfcpoajijaaaGreatDoor.Lv Go.Proofs.YtiflfcpoajijaaaGreatDoor.Cr Go.Proofs.YtiflfcpoajijaaaGreatDoor.Pa Go.Proofs.YtiflfcpoajijaaaGreatDoor.Mb

/-- The bit as a number; the secrets that are shown; the hashes of the others. -/
def bn (d : ByteArray) (k : Nat) : Nat := (bitC d k - 48).toNat
theorem bn_two (d : ByteArray) (k : Nat) : (bn d k = 0 ∨ bn d k = 1) ∧ bitC d k = 48 + (bn d k : Int) := by
  unfold bn
  rcases bitC_two d k with e | e <;> rw [e] <;> decide
def onesTo (seed : ByteArray) (i : Nat) (d : ByteArray) : Nat → List ByteArray
  | 0 => []
  | k + 1 => onesTo seed i d k ++ [sec seed i k (bn d k)]
def restTo (seed : ByteArray) (i : Nat) (d : ByteArray) : Nat → List ByteArray
  | 0 => []
  | k + 1 => restTo seed i d k ++ [hashS (bys (sec seed i k (1 - bn d k)))]
theorem onesTo_length (seed : ByteArray) (i : Nat) (d : ByteArray) : ∀ k, (onesTo seed i d k).length = k
  | 0 => rfl
  | k + 1 => by unfold onesTo; rw [List.length_append, onesTo_length seed i d k]; rfl
theorem restTo_length (seed : ByteArray) (i : Nat) (d : ByteArray) : ∀ k, (restTo seed i d k).length = k
  | 0 => rfl
  | k + 1 => by unfold restTo; rw [List.length_append, restTo_length seed i d k]; rfl
theorem str_at (zs : List Int) (s : ByteArray) (he : s = strOfNums zs) (k : Nat) (hk : k < s.size) (z : Int) (hz : zs[k]? = some z) (h0 : 0 ≤ z ∧ z ≤ 255) : ((s[k]'hk).toNat : Int) = z := by
  subst he
  have h2 : (strOfNums zs).data.toList[k]? = some (UInt8.ofNat z.toNat) := by
    rw [strOfNums_data, List.getElem?_map, hz]
    rfl
  have h3 : (strOfNums zs).data.toList[k]? = some ((strOfNums zs)[k]'hk) := by
    have hk' : k < (strOfNums zs).data.toList.length := by simpa using hk
    rw [List.getElem?_eq_getElem hk']
    rfl
  rw [Option.some.inj (h3.symm.trans h2), UInt8.toNat_ofNat_of_lt' (by unfold UInt8.size; omega)]
  omega
theorem bitC_range (d : ByteArray) (k : Nat) : 0 ≤ bitC d k ∧ bitC d k ≤ 255 := by
  rcases bitC_two d k with e | e <;> rw [e] <;> decide
theorem mb_at (msg s : ByteArray) (hs : s = mbits msg) (k : Nat) (h : k < 32) (hk : k < s.size) : ((s[k]'hk).toNat : Int) = bitC (dig msg) k :=
  str_at (bitsU (dig msg) 32) s hs k hk _ (bitsU_at (dig msg) 32 k h) (bitC_range _ _)

set_option maxRecDepth 100000 in
theorem bitAt_any (msg s : ByteArray) (k : Nat) (w : World) (hm : s = mbits msg) (hk : k < 32) :
    Calls Tryz.prog 94 #[.string s, .int .i64 k] w fun e w' => e = .returned (.int .i64 (bn (dig msg) k : Int)) ∧ w = w' := by
  have hs : s.size = 32 := by rw [hm]; exact mbits_size msg
  have h1 : k < s.size := by omega
  have h2 : (k : Int) < (s.size : Int) := by omega
  have h3 := mb_at msg s hm k hk h1
  obtain ⟨h4, h5⟩ := bn_two (dig msg) k
  have HE : Hid (((s[k]'h1).toNat : Int) = 48 + (bn (dig msg) k : Int)) := by show _ = _; rw [h3, h5]
  have HT : Hid (bn (dig msg) k = 0 ∨ bn (dig msg) k = 1) := h4
  clear h3 h4 h5 hs hm
  go_enter Tryz.func94, Tryz.ntmps94
  go_wp2_with fail
  go_ret
  refine ⟨Hf.ret_int ?_, rfl⟩
  rw [HE.out]
  rcases HT.out with e | e <;> rw [e] <;> decide

/-- A block of four cells: a signature; its three lists are the call's own, each in a block of its own. -/
structure SigAt (w : World) (B p : Nat) (i : Int) (va vb vc : Value) (ta tb tc : List ByteArray) : Prop where
  blk : w.heap[p]? = some (.cells #[.int .i64 i, va, vb, vc] 37 (0, 0))
  base : B ≤ p
  oa : OwnS w B va ta
  ob : OwnS w B vb tb
  oc : OwnS w B vc tc
  ab : Away va vb
  ac : Away va vc
  bc : Away vb vc
  pa : ∀ k, va.ownBlock = some k → k ≠ p
  pb : ∀ k, vb.ownBlock = some k → k ≠ p
  pc : ∀ k, vc.ownBlock = some k → k ≠ p
theorem asym {u v : Value} (h : Away u v) : Away v u := fun k hv hu => h k hu hv
theorem SigAt.lt {w : World} {B p : Nat} {i : Int} {va vb vc : Value} {ta tb tc : List ByteArray} (h : SigAt w B p i va vb vc ta tb tc) : p < w.heap.size := (Array.getElem?_eq_some_iff.1 h.blk).1
theorem SigAt.below {w w' : World} {B p : Nat} {i : Int} {va vb vc : Value} {ta tb tc : List ByteArray} (h : SigAt w B p i va vb vc ta tb tc) (hb : Below w.heap.size w w') : SigAt w' B p i va vb vc ta tb tc :=
  ⟨(hb.block p h.lt).trans h.blk, h.base, h.oa.below hb, h.ob.below hb, h.oc.below hb, h.ab, h.ac, h.bc, h.pa, h.pb, h.pc⟩
theorem SigAt.drew {w : World} {B p : Nat} {i : Int} {va vb vc : Value} {ta tb tc : List ByteArray} (h : SigAt w B p i va vb vc ta tb tc) : SigAt w.drew B p i va vb vc ta tb tc := ⟨h.blk, h.base, h.oa, h.ob, h.oc, h.ab, h.ac, h.bc, h.pa, h.pb, h.pc⟩
theorem kp_away {w w' : World} {v u u' : Value} (hk : Kp w w' u u') (hlt : ∀ k, v.ownBlock = some k → k < w.heap.size) (h : Away v u) : Away v u' := fun k hv hu => hk.away k (hlt k hv) (fun e => h k hv e.symm) hu.symm
theorem own_set {w : World} {B p j : Nat} {v x : Value} {ts : List ByteArray} (h : OwnS w B v ts) (hp : ∀ k, v.ownBlock = some k → k ≠ p) : OwnS (w.setCell ⟨p, j, none⟩ x) B v ts := by
  obtain ⟨hl, h⟩ := h
  refine ⟨hl, ?_⟩
  rcases h with h | ⟨g, cap, cur, rfl, hB, hgb, h⟩
  · exact .inl h
  · exact .inr ⟨g, cap, cur, rfl, hB, (blk_far (hp g rfl) j x).trans hgb, h⟩
/-- One of its lists is appended to, and stored. -/
theorem SigAt.setA {w w' : World} {B p : Nat} {i : Int} {va vb vc va' : Value} {ta tb tc ta' : List ByteArray} (h : SigAt w B p i va vb vc ta tb tc) (hk : Kp w w' va va') (ho : OwnS w' B va' ta') :
    SigAt (w'.setCell ⟨p, 1, none⟩ va') B p i va' vb vc ta' tb tc := by
  have hp : w'.heap[p]? = some (.cells #[.int .i64 i, va, vb, vc] 37 (0, 0)) := (hk.block p h.lt (fun e => h.pa p e.symm rfl)).trans h.blk
  have pa' : ∀ k, va'.ownBlock = some k → k ≠ p := fun k hv e => by subst e; exact hk.away k h.lt (fun e => h.pa k e.symm rfl) hv.symm
  have lb := fun k hk => (OwnS.lt' h.ob k hk).2
  have lc := fun k hk => (OwnS.lt' h.oc k hk).2
  exact ⟨blk_set hp 1 va', h.base, own_set ho pa', own_set (h.ob.kept (asym h.ab) hk) h.pb, own_set (h.oc.kept (asym h.ac) hk) h.pc, asym (kp_away hk lb (asym h.ab)), asym (kp_away hk lc (asym h.ac)), h.bc, pa', h.pb, h.pc⟩
theorem SigAt.setB {w w' : World} {B p : Nat} {i : Int} {va vb vc vb' : Value} {ta tb tc tb' : List ByteArray} (h : SigAt w B p i va vb vc ta tb tc) (hk : Kp w w' vb vb') (ho : OwnS w' B vb' tb') :
    SigAt (w'.setCell ⟨p, 2, none⟩ vb') B p i va vb' vc ta tb' tc := by
  have hp : w'.heap[p]? = some (.cells #[.int .i64 i, va, vb, vc] 37 (0, 0)) := (hk.block p h.lt (fun e => h.pb p e.symm rfl)).trans h.blk
  have pb' : ∀ k, vb'.ownBlock = some k → k ≠ p := fun k hv e => by subst e; exact hk.away k h.lt (fun e => h.pb k e.symm rfl) hv.symm
  have la := fun k hk => (OwnS.lt' h.oa k hk).2
  have lc := fun k hk => (OwnS.lt' h.oc k hk).2
  exact ⟨blk_set hp 2 vb', h.base, own_set (h.oa.kept h.ab hk) h.pa, own_set ho pb', own_set (h.oc.kept (asym h.bc) hk) h.pc, kp_away hk la h.ab, h.ac, asym (kp_away hk lc (asym h.bc)), h.pa, pb', h.pc⟩
theorem SigAt.setC {w w' : World} {B p : Nat} {i : Int} {va vb vc vc' : Value} {ta tb tc tc' : List ByteArray} (h : SigAt w B p i va vb vc ta tb tc) (hk : Kp w w' vc vc') (ho : OwnS w' B vc' tc') :
    SigAt (w'.setCell ⟨p, 3, none⟩ vc') B p i va vb vc' ta tb tc' := by
  have hp : w'.heap[p]? = some (.cells #[.int .i64 i, va, vb, vc] 37 (0, 0)) := (hk.block p h.lt (fun e => h.pc p e.symm rfl)).trans h.blk
  have pc' : ∀ k, vc'.ownBlock = some k → k ≠ p := fun k hv e => by subst e; exact hk.away k h.lt (fun e => h.pc k e.symm rfl) hv.symm
  have la := fun k hk => (OwnS.lt' h.oa k hk).2
  have lb := fun k hk => (OwnS.lt' h.ob k hk).2
  exact ⟨blk_set hp 3 vc', h.base, own_set (h.oa.kept h.ac hk) h.pa, own_set (h.ob.kept h.bc hk) h.pb, own_set ho pc', h.ab, kp_away hk la h.ac, kp_away hk lb h.bc, h.pa, h.pb, pc'⟩
/-- What a function that answers a signature answers. -/
structure SigV (w : World) (B : Nat) (va vb vc : Value) (ta tb tc : List ByteArray) : Prop where
  oa : OwnS w B va ta
  ob : OwnS w B vb tb
  oc : OwnS w B vc tc
  ab : Away va vb
  ac : Away va vc
  bc : Away vb vc
theorem SigAt.val {w : World} {B p : Nat} {i : Int} {va vb vc : Value} {ta tb tc : List ByteArray} (h : SigAt w B p i va vb vc ta tb tc) : SigV w B va vb vc ta tb tc := ⟨h.oa, h.ob, h.oc, h.ab, h.ac, h.bc⟩
theorem SigV.below {w w' : World} {B : Nat} {va vb vc : Value} {ta tb tc : List ByteArray} (h : SigV w B va vb vc ta tb tc) (hb : Below w.heap.size w w') : SigV w' B va vb vc ta tb tc := ⟨h.oa.below hb, h.ob.below hb, h.oc.below hb, h.ab, h.ac, h.bc⟩
theorem SigV.mono {w : World} {B B' : Nat} {va vb vc : Value} {ta tb tc : List ByteArray} (h : SigV w B va vb vc ta tb tc) (hb : B' ≤ B) : SigV w B' va vb vc ta tb tc := ⟨h.oa.mono hb, h.ob.mono hb, h.oc.mono hb, h.ab, h.ac, h.bc⟩
theorem SigV.set {w : World} {B p j : Nat} {x va vb vc : Value} {ta tb tc : List ByteArray} (h : SigV w B va vb vc ta tb tc) (hp : p < B) : SigV (w.setCell ⟨p, j, none⟩ x) B va vb vc ta tb tc :=
  ⟨own_set h.oa (fun k hk e => by have := (OwnS.lt' h.oa k hk).1; omega), own_set h.ob (fun k hk e => by have := (OwnS.lt' h.ob k hk).1; omega), own_set h.oc (fun k hk e => by have := (OwnS.lt' h.oc k hk).1; omega), h.ab, h.ac, h.bc⟩
theorem SigV.nil (w : World) (B : Nat) : SigV w B (.slice none 0 0) (.slice none 0 0) (.slice none 0 0) [] [] [] := ⟨OwnS.nil _ _, OwnS.nil _ _, OwnS.nil _ _, (fun _ h => by cases h), (fun _ h => by cases h), (fun _ h => by cases h)⟩
end Go.Proofs.YtiflfcpoajijaaaGreatDoor.Sg
