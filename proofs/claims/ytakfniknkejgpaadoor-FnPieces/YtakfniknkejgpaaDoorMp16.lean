/- Texts put together: Pq9, Pr9, Ps9. -/
import Derived.Test.YtakfniknkejgpaaDoorMp15
/- CheckPiece: both functions. -/
namespace Go.Proofs.YtakfniknkejgpaaDoor.Pw
open Go.RowKit Go.Proofs.YtakfniknkejgpaaDoor.Sl Go.Proofs.YtakfniknkejgpaaDoor.By Go.Proofs.YtakfniknkejgpaaDoor.Ap Go.Proofs.YtakfniknkejgpaaDoor.Tx Go.Proofs.YtakfniknkejgpaaDoor.Sh Go.Proofs.YtakfniknkejgpaaDoor.Ho Go.Proofs.YtakfniknkejgpaaDoor.Se Go.Proofs.YtakfniknkejgpaaDoor.Ka Go.Proofs.YtakfniknkejgpaaDoor.Sx Go.Proofs.YtakfniknkejgpaaDoor.Pf Go.Proofs.YtakfniknkejgpaaDoor.Px Go.Proofs.YtakfniknkejgpaaDoor.Py

theorem ret_sb {a b : ByteArray} {c d : Bool} (h1 : a = b) (h2 : c = d) : Ending.returned (.tuple #[.string a, .bool c]) = .returned (.tuple #[.string b, .bool d]) := by rw [h1, h2]
set_option maxRecDepth 100000 in
set_option maxHeartbeats 3200000 in
theorem l09Up_any : ∀ (f : Nat) (h : ByteArray) (k n : Nat) (ps : List ByteArray) (v : Value) (w : World), RowT w v ps → k < n → n ≤ f → f ≤ 64 → h.size = 32 → (∀ p ∈ ps, p.size = 32) → ps.length ≤ 4096 →
 Calls Tryd.prog 50 #[.string h, .int .i64 k, .int .i64 n, v] w fun e w' => ∃ x, e = .returned (.tuple #[.string x, .bool (decide (ps.length = szP f k n))]) ∧ (x.size ≤ 32 ∧ (ps.length = szP f k n → x = upF f h k n ps)) ∧ Below w.heap.size w w'
 | 0, h, k, n, ps, v, w, _, h1, h2, _, _, _, _ => by omega
 | f + 1, h, k, n, ps, v, w, hr, h1, h2, hf, hh, hs, hle => by
   have HR : Hid (RowT w v ps) := hr
   obtain ⟨a, cap, rfl, hrow⟩ := hr
   by_cases hone : n = 1
   ·have HE : Hid (upF (f + 1) h k n ps = h ∧ szP (f + 1) k n = 0) := ⟨upF_one hone, szP_one hone⟩
    have HH : Hid (h.size ≤ 32) := by show _ ≤ _; omega
    rw [HE.out.1, HE.out.2]
    subst hone
    have HQ : Hid (((ps.length : Int) == 0) = decide (ps.length = 0)) := by
     show _ = _
     rw [Bool.eq_iff_iff, beq_iff_eq, decide_eq_true_eq]; omega
    clear HE h2 hf hh hs HR hrow
    go_enter Tryd.func50, Tryd.ntmps50
    go_wp2_with fail
    go_ret2
    exact ⟨h, ret_sb rfl (by first | exact HQ.out | (rw [← HQ.out]) | simp), ⟨HH.out, fun _ => rfl⟩, Below.refl _ _⟩
   ·obtain ⟨q1, q2, q3⟩ := half_lt (show 2 ≤ n by omega)
    have hn1 : ((n : Int) == 1) = false := by rw [beq_eq_false_iff_ne]; omega
    by_cases hpos : ps.length = 0
    ·have HE : Hid (decide (ps.length = szP (f + 1) k n) = false) := by
      show _ = _
      rw [decide_eq_false_iff_not]
      by_cases hk : k < half n
      ·rw [szP_left hone hk]; omega
      ·rw [szP_right hone hk]; omega
     have HE2 : Hid (¬ ps.length = szP (f + 1) k n) := of_decide_eq_false HE.out
     rw [HE.out, hpos]
     clear HE hf hh hs HR hrow q1 q2 q3 h2 hone
     go_enter Tryd.func50, Tryd.ntmps50
     go_wp2_with fail
     go_ret2
     exact ⟨⟨#[]⟩, rfl, ⟨by decide, fun h => absurd (by rw [hpos]; exact h) HE2.out⟩, Below.refl _ _⟩
    have HF : Hid (Calls Tryd.prog 73 #[.int .i64 n] w fun e w' => e = .returned (.int .i64 (half n)) ∧ w = w') := l09Half_any n w (by omega) (by omega)
    have hcap := rowT_cap HR.out (by omega)
    have a2 := hs _ (tnth_mem (show ps.length - 1 < ps.length by omega))
    rcases hrow with hrow | ⟨b, off, rfl, hc, hb, hcell⟩
    ·rw [hrow] at hpos; exact absurd rfl hpos
    have hcl := hcell (ps.length - 1) (by omega)
    obtain ⟨q, hq⟩ : ∃ q, ps.length = q + 1 := ⟨ps.length - 1, by omega⟩
    rw [show ps.length - 1 = q by omega] at a2 hcl
    by_cases hk : k < half n
    ·have HE : Hid (upF (f + 1) h k n ps = node (upF f h k (half n) (ps.take q)) (tnth ps q)) := by
      have := upF_left (f := f) (h := h) (ps := ps) hone hk
      rwa [show ps.length - 1 = q by omega] at this
     have hz : Hid ((ps.length = szP (f + 1) k n) ↔ ((ps.take q).length = szP f k (half n))) := by
      show _ ↔ _
      rw [szP_left hone hk, List.length_take]; omega
     have HU0 := l09Up_any f h k (half n) (ps.take q) _ w (rowT_take HR.out (show q ≤ ps.length by omega)) hk (by omega) (by omega) hh (fun p hp => hs p (List.mem_of_mem_take hp)) (by rw [List.length_take]; omega)
     have HU : Hid (Calls Tryd.prog 50 #[.string h, .int .i64 k, .int .i64 (half n), .slice (some ⟨b, off, none⟩) q cap] w fun e w' => ∃ x, e = .returned (.tuple #[.string x, .bool (decide ((ps.take q).length = szP f k (half n)))]) ∧ (x.size ≤ 32 ∧ ((ps.take q).length = szP f k (half n) → x = upF f h k (half n) (ps.take q))) ∧ Below w.heap.size w w') := HU0
     have HB : Hid (decide (ps.length = szP (f + 1) k n) = decide ((ps.take q).length = szP f k (half n))) := by
      show _ = _
      rw [Bool.eq_iff_iff, decide_eq_true_eq, decide_eq_true_eq]; exact hz.out
     rw [HB.out]
     have HZ : Hid ((ps.length = szP (f + 1) k n) → ((ps.take q).length = szP f k (half n))) := fun h => hz.out.1 h
     generalize decide ((ps.take q).length = szP f k (half n)) = bb at HU
     rw [hq] at hc hle hcap
     rw [HE.out]
     have hsl : Value.slice (some ⟨b, off, none⟩) ps.length cap = .slice (some ⟨b, off, none⟩) (q + 1) cap := by rw [hq]
     rw [hsl]
     have HL : Hid (∀ x : ByteArray, x.size ≤ 32 → ∀ W, Calls Tryd.prog 74 #[.string x, .string (tnth ps q)] W fun e w' => e = .returned (.string (node x (tnth ps q))) ∧ Below W.heap.size W w') := fun x hx W => l03Node_any x (tnth ps q) W (by omega) (by omega)
     have HNS : Hid (∀ x : ByteArray, x.size ≤ 32 → (node x (tnth ps q)).size ≤ 32) := fun x hx => by have := node_size x (tnth ps q) hx (by omega); omega
     generalize tnth ps q = l at HL HNS hcl
     clear HE hz hs hh HR hcell a2 hq hone hpos hf h2 HU0 HB hsl
     generalize half n = m at q1 q2 q3 HF HU hk HZ
     have p0 : (k : Int) < (m : Int) := by omega
     have p1 : (q : Int) ≤ (cap : Int) := by omega
     have p2 : (q : Int) + 1 ≤ (cap : Int) := by omega
     have p3 : (q : Int) < 4096 := by omega
     have p5 : (q : Int) < (q : Int) + 1 := by omega
     have p6 : ((q : Int) + 1 == 0) = false := by rw [beq_eq_false_iff_ne]; omega
     go_enter Tryd.func50, Tryd.ntmps50
     go_wp2_with fail
     refine HF.out.mono ?_
     rintro e w1 ⟨rfl, rfl⟩
     go_wp2_with fail
     refine HU.out.mono ?_
     rintro e w2 ⟨x, rfl, hx, b2⟩
     have HXX : Hid (x.size ≤ 32 ∧ ((ps.take q).length = szP f k m → x = upF f h k m (ps.take q))) := hx
     clear hx
     go_wp2_with fail
     refine (HL.out x HXX.out.1 _).mono ?_
     rintro e w3 ⟨rfl, b3⟩
     go_wp2_with fail
     go_ret2
     exact ⟨node x l, rfl, ⟨HNS.out x HXX.out.1, fun hh => by rw [HXX.out.2 (HZ.out hh)]⟩, b2.trans (b3.mono b2.size)⟩
    ·have HE : Hid (upF (f + 1) h k n ps = node (tnth ps q) (upF f h (k - half n) (n - half n) (ps.take q))) := by
      have := upF_right (f := f) (h := h) (ps := ps) hone hk
      rwa [show ps.length - 1 = q by omega] at this
     have hz : Hid ((ps.length = szP (f + 1) k n) ↔ ((ps.take q).length = szP f (k - half n) (n - half n))) := by
      show _ ↔ _
      rw [szP_right hone hk, List.length_take]; omega
     have HU0 := l09Up_any f h (k - half n) (n - half n) (ps.take q) _ w (rowT_take HR.out (show q ≤ ps.length by omega)) (by omega) (by omega) (by omega) hh (fun p hp => hs p (List.mem_of_mem_take hp)) (by rw [List.length_take]; omega)
     rw [show ((k - half n : Nat) : Int) = (k : Int) - (half n : Int) by omega, show ((n - half n : Nat) : Int) = (n : Int) - (half n : Int) by omega] at HU0
     have HU : Hid (Calls Tryd.prog 50 #[.string h, .int .i64 ((k : Int) - (half n : Int)), .int .i64 ((n : Int) - (half n : Int)), .slice (some ⟨b, off, none⟩) q cap] w fun e w' => ∃ x, e = .returned (.tuple #[.string x, .bool (decide ((ps.take q).length = szP f (k - half n) (n - half n)))]) ∧ (x.size ≤ 32 ∧ ((ps.take q).length = szP f (k - half n) (n - half n) → x = upF f h (k - half n) (n - half n) (ps.take q))) ∧ Below w.heap.size w w') := HU0
     have HB : Hid (decide (ps.length = szP (f + 1) k n) = decide ((ps.take q).length = szP f (k - half n) (n - half n))) := by
      show _ = _
      rw [Bool.eq_iff_iff, decide_eq_true_eq, decide_eq_true_eq]; exact hz.out
     rw [HB.out]
     have HZ : Hid ((ps.length = szP (f + 1) k n) → ((ps.take q).length = szP f (k - half n) (n - half n))) := fun h => hz.out.1 h
     generalize decide ((ps.take q).length = szP f (k - half n) (n - half n)) = bb at HU
     rw [hq] at hc hle hcap
     rw [HE.out]
     have hsl : Value.slice (some ⟨b, off, none⟩) ps.length cap = .slice (some ⟨b, off, none⟩) (q + 1) cap := by rw [hq]
     rw [hsl]
     have HL : Hid (∀ x : ByteArray, x.size ≤ 32 → ∀ W, Calls Tryd.prog 74 #[.string (tnth ps q), .string x] W fun e w' => e = .returned (.string (node (tnth ps q) x)) ∧ Below W.heap.size W w') := fun x hx W => l03Node_any (tnth ps q) x W (by omega) (by omega)
     have HNS : Hid (∀ x : ByteArray, x.size ≤ 32 → (node (tnth ps q) x).size ≤ 32) := fun x hx => by have := node_size (tnth ps q) x (by omega) hx; omega
     generalize tnth ps q = l at HL HNS hcl
     clear HE hz hs hh HR hcell a2 hq hone hpos HU0 HB hsl
     generalize half n = m at q1 q2 q3 HF HU hk HZ
     have p0 : ¬ (k : Int) < (m : Int) := by omega
     have p1 : (q : Int) ≤ (cap : Int) := by omega
     have p2 : (q : Int) + 1 ≤ (cap : Int) := by omega
     have p3 : (q : Int) < 4096 := by omega
     have p5 : (q : Int) < (q : Int) + 1 := by omega
     have p6 : ((q : Int) + 1 == 0) = false := by rw [beq_eq_false_iff_ne]; omega
     have u3 : wrap64 ((k : Int) - (m : Int)) = (k : Int) - (m : Int) := by unfold wrap64; omega
     have u4 : wrap64 ((n : Int) - (m : Int)) = (n : Int) - (m : Int) := by unfold wrap64; omega
     clear hf h2
     go_enter Tryd.func50, Tryd.ntmps50
     go_wp2_with fail
     refine HF.out.mono ?_
     rintro e w1 ⟨rfl, rfl⟩
     go_wp2_with fail
     refine HU.out.mono ?_
     rintro e w2 ⟨x, rfl, hx, b2⟩
     have HXX : Hid (x.size ≤ 32 ∧ ((ps.take q).length = szP f (k - m) (n - m) → x = upF f h (k - m) (n - m) (ps.take q))) := hx
     clear hx
     go_wp2_with fail
     refine (HL.out x HXX.out.1 _).mono ?_
     rintro e w3 ⟨rfl, b3⟩
     go_wp2_with fail
     go_ret2
     exact ⟨node l x, rfl, ⟨HNS.out x HXX.out.1, fun hh => by rw [HXX.out.2 (HZ.out hh)]⟩, b2.trans (b3.mono b2.size)⟩
end Go.Proofs.YtakfniknkejgpaaDoor.Pw

/- CheckPiece: what both functions answer. -/
namespace Go.Proofs.YtakfniknkejgpaaDoor.Pw
open Go.RowKit Go.Proofs.YtakfniknkejgpaaDoor.Sl Go.Proofs.YtakfniknkejgpaaDoor.By Go.Proofs.YtakfniknkejgpaaDoor.Ap Go.Proofs.YtakfniknkejgpaaDoor.Tx Go.Proofs.YtakfniknkejgpaaDoor.Sh Go.Proofs.YtakfniknkejgpaaDoor.Ho Go.Proofs.YtakfniknkejgpaaDoor.Se Go.Proofs.YtakfniknkejgpaaDoor.Ka Go.Proofs.YtakfniknkejgpaaDoor.Sx Go.Proofs.YtakfniknkejgpaaDoor.Pf Go.Proofs.YtakfniknkejgpaaDoor.Px Go.Proofs.YtakfniknkejgpaaDoor.Py

theorem toList_ne {a b : ByteArray} (h : a ≠ b) : (a.toList == b.toList) = false := by
 rw [beq_eq_false_iff_ne]
 intro e
 apply h
 rw [Lib.toList_data, Lib.toList_data] at e
 exact ByteArray.ext (Array.toList_inj.1 e)
theorem toList_eq {a b : ByteArray} (h : a = b) : (a.toList == b.toList) = true := by rw [h]; simp
theorem inP_get {n a b : Int} (h : inP n a b = true) : a ≤ n ∧ n ≤ b := by
 unfold inP at h
 rw [Bool.and_eq_true, decide_eq_true_eq, decide_eq_true_eq] at h
 exact h
def haP (ts : List ByteArray) : Bool := ts.all (fun t => decide (t.size = 32))
theorem ha_yes {ts : List ByteArray} (h : ∀ j, j < ts.length → (tnth ts j).size = 32) : haP ts = true := by
 unfold haP
 rw [List.all_eq_true]
 intro t ht
 obtain ⟨i, hi, rfl⟩ := List.getElem_of_mem ht
 have := h i hi
 rw [decide_eq_true_eq]
 have e : tnth ts i = ts[i] := by unfold tnth; rw [List.getD_eq_getElem?_getD, List.getElem?_eq_getElem hi]; rfl
 rw [← e]; exact this
theorem ha_bad {ts : List ByteArray} {k : Nat} (hk : k < ts.length) (h : (tnth ts k).size ≠ 32) : haP ts = false := by
 unfold haP
 rw [List.all_eq_false]
 exact ⟨tnth ts k, tnth_mem hk, by simpa using h⟩
theorem ha_get {ts : List ByteArray} (h : haP ts = true) : ∀ t ∈ ts, t.size = 32 := by
 unfold haP at h
 rw [List.all_eq_true] at h
 exact fun t ht => of_decide_eq_true (h t ht)
set_option maxRecDepth 100000 in
set_option maxHeartbeats 400000 in
theorem allHashes_any (v : Value) (ts : List ByteArray) (w : World) (h : RowT w v ts) (hl : ts.length ≤ 1048576) :
 Calls Tryd.prog 45 #[v] w fun e w' => e = .returned (.bool (haP ts)) ∧ w = w' := by
 obtain ⟨a, cap, rfl, h⟩ := h
 go_enter Tryd.func45, Tryd.ntmps45
 go_wp2_with fail
 go_loop [7] (fun i => ∃ k : Nat, k ≤ ts.length ∧ i = .int .i64 k ∧ Hid (∀ j, j < k → (tnth ts j).size = 32)) (fun i => ts.length - (intOf i).toNat)
 case atStart => exact ⟨0, by omega, rfl, fun j hj => absurd hj (by omega)⟩
 case round =>
  obtain ⟨k, hk, rfl, HI⟩ := hrel
  by_cases hlt : k < ts.length
  ·rcases h with h | ⟨b, off, rfl, hc, hb, hcell⟩
   ·exact absurd hlt (by rw [h]; simp)
   have c1 := hcell k hlt
   have hp1 : (k : Int) < (ts.length : Int) := by omega
   by_cases h32 : (tnth ts k).size = 32
   ·have HJ : Hid (∀ j, j < k + 1 → (tnth ts j).size = 32) := fun j hj => by
     by_cases e : j = k
     ·subst e; exact h32
     ·exact HI.out j (by omega)
    have h32' : (((tnth ts k).size : Int) != 32) = false := by simp; omega
    clear hcell h32
    generalize tnth ts k = t at c1 h32'
    go_wp2_with fail
    go_round
    case rel => exact ⟨k + 1, by omega, by go_num, HJ⟩
    case measure => simp [intOf]; omega
   ·have HE : Hid (haP ts = false) := ha_bad hlt h32
    have h32' : (((tnth ts k).size : Int) != 32) = true := by simp; omega
    clear hcell h32
    generalize tnth ts k = t at c1 h32'
    go_wp2_with fail
    go_ret
    exact ⟨retB HE.out.symm, rfl⟩
  ·obtain rfl : k = ts.length := by omega
   have HE : Hid (haP ts = true) := ha_yes HI.out
   go_wp2_with fail
   go_ret
   exact ⟨retB HE.out.symm, rfl⟩
open Classical in
noncomputable def ckC (root piece : ByteArray) (i n : Int) (ps : List ByteArray) : Int :=
 if 65536 < root.size ∨ 65536 < piece.size ∨ 4096 < ps.length then 2
 else if root.size ≠ 32 ∨ haP ps = false ∨ 32 < piece.size then 1
 else if inP n 1 64 = true ∧ inP i 0 (n - 1) = true then
  (if ps.length = szP 64 i.toNat n.toNat then (if upF 64 (leaf piece) i.toNat n.toNat ps = root then 0 else 11) else 10)
 else 4
section
variable {root piece : ByteArray} {i n : Int} {ps : List ByteArray}
theorem ck_long (h : 65536 < root.size ∨ 65536 < piece.size ∨ 4096 < ps.length) : ckC root piece i n ps = 2 := if_pos h
theorem ck_bad (h0 : ¬ (65536 < root.size ∨ 65536 < piece.size ∨ 4096 < ps.length)) (h : root.size ≠ 32 ∨ haP ps = false ∨ 32 < piece.size) : ckC root piece i n ps = 1 := by unfold ckC; rw [if_neg h0, if_pos h]
theorem ck_range (h0 : ¬ (65536 < root.size ∨ 65536 < piece.size ∨ 4096 < ps.length)) (h1 : ¬ (root.size ≠ 32 ∨ haP ps = false ∨ 32 < piece.size)) (h : ¬ (inP n 1 64 = true ∧ inP i 0 (n - 1) = true)) : ckC root piece i n ps = 4 := by unfold ckC; rw [if_neg h0, if_neg h1, if_neg h]
theorem ck_proof (h0 : ¬ (65536 < root.size ∨ 65536 < piece.size ∨ 4096 < ps.length)) (h1 : ¬ (root.size ≠ 32 ∨ haP ps = false ∨ 32 < piece.size)) (h2 : inP n 1 64 = true ∧ inP i 0 (n - 1) = true) (h : ps.length ≠ szP 64 i.toNat n.toNat) : ckC root piece i n ps = 10 := by unfold ckC; rw [if_neg h0, if_neg h1, if_pos h2, if_neg h]
theorem ck_root (h0 : ¬ (65536 < root.size ∨ 65536 < piece.size ∨ 4096 < ps.length)) (h1 : ¬ (root.size ≠ 32 ∨ haP ps = false ∨ 32 < piece.size)) (h2 : inP n 1 64 = true ∧ inP i 0 (n - 1) = true) (h3 : ps.length = szP 64 i.toNat n.toNat) (h : upF 64 (leaf piece) i.toNat n.toNat ps ≠ root) : ckC root piece i n ps = 11 := by unfold ckC; rw [if_neg h0, if_neg h1, if_pos h2, if_pos h3, if_neg h]
theorem ck_ok (h0 : ¬ (65536 < root.size ∨ 65536 < piece.size ∨ 4096 < ps.length)) (h1 : ¬ (root.size ≠ 32 ∨ haP ps = false ∨ 32 < piece.size)) (h2 : inP n 1 64 = true ∧ inP i 0 (n - 1) = true) (h3 : ps.length = szP 64 i.toNat n.toNat) (h : upF 64 (leaf piece) i.toNat n.toNat ps = root) : ckC root piece i n ps = 0 := by unfold ckC; rw [if_neg h0, if_neg h1, if_pos h2, if_pos h3, if_pos h]
end
set_option maxRecDepth 100000 in
set_option maxHeartbeats 3200000 in
theorem implCheckPiece_any (root piece : ByteArray) (i n : Int) (v : Value) (ps : List ByteArray) (w : World) (h : RowT w v ps) (hl : ps.length ≤ 1048576) (hK : KTab w) (hp : 0 < w.heap.size) :
 Calls Tryd.prog 21 #[.string root, .string piece, .int .i64 i, .int .i64 n, v] w fun e w' => e = .returned (.int .i64 (ckC root piece i n ps)) ∧ Below w.heap.size w w' := by
 have HA : Hid (Calls Tryd.prog 45 #[v] w fun e w' => e = .returned (.bool (haP ps)) ∧ w = w') := allHashes_any v ps w h hl
 have hrow := h
 obtain ⟨a, cap, rfl, _⟩ := h
 by_cases c1 : 65536 < root.size
 ·have HE : Hid (ckC root piece i n ps = 2) := ck_long (.inl c1)
  have c1' : (65536 : Int) < (root.size : Int) := by omega
  clear hrow hK HA
  go_enter Tryd.func21, Tryd.ntmps21
  go_wp2_with fail
  go_ret
  exact ⟨retI HE.out.symm, Below.refl _ _⟩
 have c1' : ¬ (65536 : Int) < (root.size : Int) := by omega
 by_cases c2 : 65536 < piece.size
 ·have HE : Hid (ckC root piece i n ps = 2) := ck_long (.inr (.inl c2))
  have c2' : (65536 : Int) < (piece.size : Int) := by omega
  clear hrow hK HA
  go_enter Tryd.func21, Tryd.ntmps21
  go_wp2_with fail
  go_ret
  exact ⟨retI HE.out.symm, Below.refl _ _⟩
 have c2' : ¬ (65536 : Int) < (piece.size : Int) := by omega
 by_cases c3 : 4096 < ps.length
 ·have HE : Hid (ckC root piece i n ps = 2) := ck_long (.inr (.inr c3))
  have c3' : (4096 : Int) < (ps.length : Int) := by omega
  clear hrow hK HA
  go_enter Tryd.func21, Tryd.ntmps21
  go_wp2_with fail
  go_ret
  exact ⟨retI HE.out.symm, Below.refl _ _⟩
 have c3' : ¬ (4096 : Int) < (ps.length : Int) := by omega
 have h0 : ¬ (65536 < root.size ∨ 65536 < piece.size ∨ 4096 < ps.length) := by omega
 by_cases d1 : root.size = 32
 case neg =>
  have HE : Hid (ckC root piece i n ps = 1) := ck_bad h0 (.inl d1)
  have d1' : ((root.size : Int) != 32) = true := by simp; omega
  clear hrow hK HA h0 c1 c2 c3 d1
  go_enter Tryd.func21, Tryd.ntmps21
  go_wp2_with fail
  go_ret
  exact ⟨retI HE.out.symm, Below.refl _ _⟩
 have d1' : ((root.size : Int) != 32) = false := by simp; omega
 cases d2 : haP ps
 case false =>
  have HE : Hid (ckC root piece i n ps = 1) := ck_bad h0 (.inr (.inl d2))
  rw [d2] at HA
  clear hrow hK h0 c1 c2 c3 d1 d2
  go_enter Tryd.func21, Tryd.ntmps21
  go_wp2_with (first | (go_at_call 45; refine HA.out.mono ?_; rintro e w1 ⟨rfl, rfl⟩) | fail)
  go_ret
  exact ⟨retI HE.out.symm, Below.refl _ _⟩
 rw [d2] at HA
 by_cases d3 : 32 < piece.size
 ·have HE : Hid (ckC root piece i n ps = 1) := ck_bad h0 (.inr (.inr d3))
  have d3' : (32 : Int) < (piece.size : Int) := by omega
  clear hrow hK h0 c1 c2 c3 d1 d2
  go_enter Tryd.func21, Tryd.ntmps21
  go_wp2_with (first | (go_at_call 45; refine HA.out.mono ?_; rintro e w1 ⟨rfl, rfl⟩) | fail)
  go_ret
  exact ⟨retI HE.out.symm, Below.refl _ _⟩
 have d3' : ¬ (32 : Int) < (piece.size : Int) := by omega
 have h1 : ¬ (root.size ≠ 32 ∨ haP ps = false ∨ 32 < piece.size) := by
  rintro (h | h | h)
  ·exact h d1
  ·rw [d2] at h; cases h
  ·exact d3 h
 have HI1 : Hid (∀ W, Calls Tryd.prog 43 #[.int .i64 n, .int .i64 1, .int .i64 64] W fun e w' => e = .returned (.bool (inP n 1 64)) ∧ W = w') := fun W => within_any _ _ _ W
 cases e1 : inP n 1 64
 case false =>
  have HE : Hid (ckC root piece i n ps = 4) := ck_range h0 h1 (by rw [e1]; rintro ⟨h, _⟩; cases h)
  rw [e1] at HI1
  clear hrow hK h0 h1 c1 c2 c3 d1 d2 d3 e1
  go_enter Tryd.func21, Tryd.ntmps21
  go_wp2_with (first | (go_at_call 45; refine HA.out.mono ?_; rintro e w1 ⟨rfl, rfl⟩) | (go_at_call 43; refine (HI1.out _).mono ?_; rintro e w1 ⟨rfl, rfl⟩) | fail)
  go_ret
  exact ⟨retI HE.out.symm, Below.refl _ _⟩
 rw [e1] at HI1
 obtain ⟨n1, n2⟩ := inP_get e1
 have hwr : IntKind.i64.wrap (n - 1) = n - 1 := by rw [IntKind.wrap_i64]; omega
 have hwr2 : wrap64 (n - 1) = n - 1 := by unfold wrap64; omega
 have HI2 : Hid (∀ W, Calls Tryd.prog 43 #[.int .i64 i, .int .i64 0, .int .i64 (n - 1)] W fun e w' => e = .returned (.bool (inP i 0 (n - 1))) ∧ W = w') := fun W => within_any _ _ _ W
 cases e2 : inP i 0 (n - 1)
 case false =>
  have HE : Hid (ckC root piece i n ps = 4) := ck_range h0 h1 (by rw [e2]; rintro ⟨_, h⟩; cases h)
  rw [e2] at HI2
  clear hrow hK h0 h1 c1 c2 c3 d1 d2 d3 e1 e2
  go_enter Tryd.func21, Tryd.ntmps21
  go_wp2_with (first | (go_at_call 45; refine HA.out.mono ?_; rintro e w1 ⟨rfl, rfl⟩) | (go_at_call 43; (with_reducible refine (HI1.out _).mono ?_); rintro e w1 ⟨rfl, rfl⟩) | (go_at_call 43; (with_reducible refine (HI2.out _).mono ?_); rintro e w1 ⟨rfl, rfl⟩) | fail)
  go_ret
  exact ⟨retI HE.out.symm, Below.refl _ _⟩
 rw [e2] at HI2
 obtain ⟨i1, i2⟩ := inP_get e2
 obtain ⟨k, rfl⟩ : ∃ k : Nat, i = (k : Int) := ⟨i.toNat, by omega⟩
 obtain ⟨m, rfl⟩ : ∃ m : Nat, n = (m : Int) := ⟨n.toNat, by omega⟩
 have HZP : Hid (∀ W, Calls Tryd.prog 46 #[.int .i64 k, .int .i64 m] W fun e w' => e = .returned (.int .i64 (szP 64 k m)) ∧ W = w') := fun W => proofSize_any 64 k m W (by omega) (by omega) (by decide)
 have hall := ha_get d2
 by_cases f1 : ps.length = szP 64 k m
 case neg =>
  have HE : Hid (ckC root piece k m ps = 10) := ck_proof h0 h1 ⟨e1, e2⟩ f1
  have f1' : ((ps.length : Int) != (szP 64 k m : Int)) = true := by rw [bne_iff_ne]; omega
  generalize szP 64 k m = z at HZP f1'
  clear hrow hK h0 h1 c1 c2 c3 d1 d2 d3 e1 e2 hall f1
  go_enter Tryd.func21, Tryd.ntmps21
  go_wp2_with (first | (go_at_call 45; refine HA.out.mono ?_; rintro e w1 ⟨rfl, rfl⟩) | (go_at_call 43; (with_reducible refine (HI1.out _).mono ?_); rintro e w1 ⟨rfl, rfl⟩) | (go_at_call 43; (with_reducible refine (HI2.out _).mono ?_); rintro e w1 ⟨rfl, rfl⟩) | (go_at_call 46; refine (HZP.out _).mono ?_; rintro e w1 ⟨rfl, rfl⟩) | fail)
  go_ret
  exact ⟨retI HE.out.symm, Below.refl _ _⟩
 have f1' : ((ps.length : Int) != (szP 64 k m : Int)) = false := by rw [bne_eq_false_iff_eq]; omega
 have HPR : Hid (Calls Tryd.prog 48 #[.string piece] w fun e w' => e = .returned (.string (leaf piece)) ∧ Below w.heap.size w w') := pieceRoot_any piece w (by omega) hK hp
 have HUP : Hid (∀ W, Below w.heap.size w W → Calls Tryd.prog 47 #[.string (leaf piece), .int .i64 k, .int .i64 m, .slice a ps.length cap] W fun e w' => e = .returned (.string (upF 64 (leaf piece) k m ps)) ∧ Below W.heap.size W w') := fun W hW =>
  provedRoot_any 64 (leaf piece) k m ps _ W (hrow.below hW) (by omega) (by omega) (by decide) (leaf_size _ (by omega)) hall f1 (hK.below hW hp) (Nat.lt_of_lt_of_le hp hW.size)
 have HCK : Hid (ckC root piece k m ps = if (upF 64 (leaf piece) k m ps).toList == root.toList then 0 else 11) := by
  show _ = _
  by_cases hq : upF 64 (leaf piece) k m ps = root
  ·rw [ck_ok h0 h1 ⟨e1, e2⟩ f1 hq, toList_eq hq]; rfl
  ·rw [ck_root h0 h1 ⟨e1, e2⟩ f1 hq, toList_ne hq]; rfl
 generalize upF 64 (leaf piece) k m ps = x at HUP HCK
 generalize szP 64 k m = z at HZP f1' f1
 generalize leaf piece = lf at HPR HUP
 clear hrow hK h0 h1 c1 c2 c3 d1 d2 d3 e1 e2 hall f1
 go_enter Tryd.func21, Tryd.ntmps21
 go_wp2_with (first | (go_at_call 45; refine HA.out.mono ?_; rintro e w1 ⟨rfl, rfl⟩) | (go_at_call 43; (with_reducible refine (HI1.out _).mono ?_); rintro e w1 ⟨rfl, rfl⟩) | (go_at_call 43; (with_reducible refine (HI2.out _).mono ?_); rintro e w1 ⟨rfl, rfl⟩) | (go_at_call 46; refine (HZP.out _).mono ?_; rintro e w1 ⟨rfl, rfl⟩) | fail)
 refine HPR.out.mono ?_
 rintro e w2 ⟨rfl, b2⟩
 go_wp2_with fail
 refine (HUP.out w2 b2).mono ?_
 rintro e w3 ⟨rfl, b3⟩
 have B3 := b2.trans (b3.mono b2.size)
 clear b2 b3
 cases hq : x.toList == root.toList
 case false =>
  rw [hq] at HCK
  go_wp2_with fail
  go_ret
  exact ⟨retI HCK.out.symm, B3⟩
 case true =>
  rw [hq] at HCK
  go_wp2_with fail
  go_ret
  exact ⟨retI HCK.out.symm, B3⟩
end Go.Proofs.YtakfniknkejgpaaDoor.Pw

/- CheckPiece: what the specification answers. -/
namespace Go.Proofs.YtakfniknkejgpaaDoor.Pw
open Go.RowKit Go.Proofs.YtakfniknkejgpaaDoor.Sl Go.Proofs.YtakfniknkejgpaaDoor.By Go.Proofs.YtakfniknkejgpaaDoor.Ap Go.Proofs.YtakfniknkejgpaaDoor.Tx Go.Proofs.YtakfniknkejgpaaDoor.Sh Go.Proofs.YtakfniknkejgpaaDoor.Ho Go.Proofs.YtakfniknkejgpaaDoor.Se Go.Proofs.YtakfniknkejgpaaDoor.Ka Go.Proofs.YtakfniknkejgpaaDoor.Sx Go.Proofs.YtakfniknkejgpaaDoor.Pf Go.Proofs.YtakfniknkejgpaaDoor.Px Go.Proofs.YtakfniknkejgpaaDoor.Py

set_option maxRecDepth 100000 in
set_option maxHeartbeats 3200000 in
theorem specCheckPiece_any (root piece : ByteArray) (i n : Int) (v : Value) (ps : List ByteArray) (w : World) (h : RowT w v ps) (hl : ps.length ≤ 1048576) :
 Calls Tryd.prog 22 #[.string root, .string piece, .int .i64 i, .int .i64 n, v] w fun e w' => e = .returned (.int .i64 (ckC root piece i n ps)) ∧ Below w.heap.size w w' := by
 have hrow := h
 obtain ⟨a, cap, rfl, hcl⟩ := h
 by_cases c1 : 65536 < root.size
 ·have HE : Hid (ckC root piece i n ps = 2) := ck_long (.inl c1)
  have c1' : (65536 : Int) < (root.size : Int) := by omega
  clear hrow hcl
  go_enter Tryd.func22, Tryd.ntmps22
  go_wp2_with fail
  go_ret
  exact ⟨retI HE.out.symm, Below.refl _ _⟩
 have c1' : ¬ (65536 : Int) < (root.size : Int) := by omega
 by_cases c2 : 65536 < piece.size
 ·have HE : Hid (ckC root piece i n ps = 2) := ck_long (.inr (.inl c2))
  have c2' : (65536 : Int) < (piece.size : Int) := by omega
  clear hrow hcl
  go_enter Tryd.func22, Tryd.ntmps22
  go_wp2_with fail
  go_ret
  exact ⟨retI HE.out.symm, Below.refl _ _⟩
 have c2' : ¬ (65536 : Int) < (piece.size : Int) := by omega
 by_cases c3 : 4096 < ps.length
 ·have HE : Hid (ckC root piece i n ps = 2) := ck_long (.inr (.inr c3))
  have c3' : (4096 : Int) < (ps.length : Int) := by omega
  clear hrow hcl
  go_enter Tryd.func22, Tryd.ntmps22
  go_wp2_with fail
  go_ret
  exact ⟨retI HE.out.symm, Below.refl _ _⟩
 have c3' : ¬ (4096 : Int) < (ps.length : Int) := by omega
 have h0 : ¬ (65536 < root.size ∨ 65536 < piece.size ∨ 4096 < ps.length) := by omega
 by_cases d1 : root.size = 32
 case neg =>
  have HE : Hid (ckC root piece i n ps = 1) := ck_bad h0 (.inl d1)
  have d1' : ((root.size : Int) != 32) = true := by simp; omega
  clear hrow hcl h0 c1 c2 c3 d1
  go_enter Tryd.func22, Tryd.ntmps22
  go_wp2_with fail
  go_ret
  exact ⟨retI HE.out.symm, Below.refl _ _⟩
 have d1' : ((root.size : Int) != 32) = false := by simp; omega
 by_cases d3 : 32 < piece.size
 ·have HE : Hid (ckC root piece i n ps = 1) := ck_bad h0 (.inr (.inr d3))
  have d3' : (32 : Int) < (piece.size : Int) := by omega
  clear hrow hcl h0 c1 c2 c3 d1 d3
  go_enter Tryd.func22, Tryd.ntmps22
  go_wp2_with fail
  go_ret
  exact ⟨retI HE.out.symm, Below.refl _ _⟩
 have d3' : ¬ (32 : Int) < (piece.size : Int) := by omega
 have HB : Hid (haP ps = false → ckC root piece i n ps = 1) := fun h => ck_bad h0 (.inr (.inl h))
 have HI1 : Hid (Calls Tryd.prog 49 #[.int .i64 n, .int .i64 1, .int .i64 64] w fun e w' => e = .returned (.bool (inP n 1 64)) ∧ w = w') := l01In_any _ _ _ w
 have HI2 : Hid (Calls Tryd.prog 49 #[.int .i64 i, .int .i64 0, .int .i64 (n - 1)] w fun e w' => e = .returned (.bool (inP i 0 (n - 1))) ∧ w = w') := l01In_any _ _ _ w
 have HROW : Hid (RowT w (.slice a ps.length cap) ps) := hrow
 have H0 : Hid (¬ (65536 < root.size ∨ 65536 < piece.size ∨ 4096 < ps.length)) := h0
 have H1 : Hid (haP ps = true → ¬ (root.size ≠ 32 ∨ haP ps = false ∨ 32 < piece.size)) := fun d2 => by
  rintro (h | h | h)
  ·exact h d1
  ·rw [d2] at h; cases h
  ·exact d3 h
 have HPS : Hid (piece.size ≤ 60000 ∧ ps.length ≤ 4096) := ⟨by omega, by omega⟩
 clear h0 c1 c2 c3 d1 d3 hrow
 go_enter Tryd.func22, Tryd.ntmps22
 go_wp2_with fail
 go_loop [11] (fun j => ∃ k : Nat, k ≤ ps.length ∧ j = .int .i64 k ∧ Hid (∀ q, q < k → (tnth ps q).size = 32)) (fun j => ps.length - (intOf j).toNat)
 case atStart => exact ⟨0, by omega, rfl, fun j hj => absurd hj (by omega)⟩
 case round =>
  obtain ⟨k, hk, rfl, HI⟩ := hrel
  by_cases hlt : k < ps.length
  ·rcases hcl with h | ⟨b, off, rfl, hc, hb, hcell⟩
   ·exact absurd hlt (by rw [h]; simp)
   have cc := hcell k hlt
   have hp1 : (k : Int) < (ps.length : Int) := by omega
   by_cases h32 : (tnth ps k).size = 32
   ·have HJ : Hid (∀ q, q < k + 1 → (tnth ps q).size = 32) := fun j hj => by
     by_cases e : j = k
     ·subst e; exact h32
     ·exact HI.out j (by omega)
    have h32' : (((tnth ps k).size : Int) != 32) = false := by simp; omega
    clear hcell h32
    generalize tnth ps k = t at cc h32'
    go_wp2_with fail
    go_round
    case rel => exact ⟨k + 1, by omega, by go_num, HJ⟩
    case measure => simp [intOf]; omega
   ·have HE : Hid (ckC root piece i n ps = 1) := HB.out (ha_bad hlt h32)
    have h32' : (((tnth ps k).size : Int) != 32) = true := by simp; omega
    clear hcell h32
    generalize tnth ps k = t at cc h32'
    go_wp2_with fail
    go_ret
    exact ⟨retI HE.out.symm, Below.refl _ _⟩
  ·obtain rfl : k = ps.length := by omega
   have d2 : haP ps = true := ha_yes HI.out
   have h1 := H1.out d2
   have h0 := H0.out
   have hge : ¬ (ps.length : Int) < (ps.length : Int) := by omega
   clear hcl HI hlt hk
   cases e1 : inP n 1 64
   case false =>
    have HE : Hid (ckC root piece i n ps = 4) := ck_range h0 h1 (by rw [e1]; rintro ⟨h, _⟩; cases h)
    rw [e1] at HI1
    clear h0 h1 d2 e1
    go_wp2_with (first | (go_at_call 49; refine HI1.out.mono ?_; rintro e w1 ⟨rfl, rfl⟩) | fail)
    go_ret
    exact ⟨retI HE.out.symm, Below.refl _ _⟩
   case true =>
    rw [e1] at HI1
    obtain ⟨n1, n2⟩ := inP_get e1
    have hwr : IntKind.i64.wrap (n - 1) = n - 1 := by rw [IntKind.wrap_i64]; omega
    have hwr2 : wrap64 (n - 1) = n - 1 := by unfold wrap64; omega
    cases e2 : inP i 0 (n - 1)
    case false =>
     have HE : Hid (ckC root piece i n ps = 4) := ck_range h0 h1 (by rw [e2]; rintro ⟨_, h⟩; cases h)
     rw [e2] at HI2
     clear h0 h1 d2 e1 e2
     go_wp2_with (first | (go_at_call 49; (with_reducible refine HI1.out.mono ?_); rintro e w1 ⟨rfl, rfl⟩) | (go_at_call 49; (with_reducible refine HI2.out.mono ?_); rintro e w1 ⟨rfl, rfl⟩) | fail)
     go_ret
     exact ⟨retI HE.out.symm, Below.refl _ _⟩
    case true =>
     rw [e2] at HI2
     obtain ⟨i1, i2⟩ := inP_get e2
     obtain ⟨k, rfl⟩ : ∃ k : Nat, i = (k : Int) := ⟨i.toNat, by omega⟩
     obtain ⟨m, rfl⟩ : ∃ m : Nat, n = (m : Int) := ⟨n.toNat, by omega⟩
     have hall := ha_get d2
     have HLF : Hid (Calls Tryd.prog 51 #[.string piece] w fun e w' => e = .returned (.string (leaf piece)) ∧ Below w.heap.size w w') := l09Leaf_any piece w HPS.out.1
     have HUP : Hid (∀ W, Below w.heap.size w W → Calls Tryd.prog 50 #[.string (leaf piece), .int .i64 k, .int .i64 m, .slice a ps.length cap] W fun e w' => ∃ x, e = .returned (.tuple #[.string x, .bool (decide (ps.length = szP 64 k m))]) ∧ (x.size ≤ 32 ∧ (ps.length = szP 64 k m → x = upF 64 (leaf piece) k m ps)) ∧ Below W.heap.size W w') := fun W hW =>
      l09Up_any 64 (leaf piece) k m ps _ W (HROW.out.below hW) (by omega) (by omega) (by decide) (leaf_size _ HPS.out.1) hall HPS.out.2
     have HCN : Hid (¬ ps.length = szP 64 k m → ckC root piece k m ps = 10) := fun h => ck_proof h0 h1 ⟨e1, e2⟩ h
     have HCK : Hid (ps.length = szP 64 k m → ckC root piece k m ps = if (upF 64 (leaf piece) k m ps).toList == root.toList then 0 else 11) := fun f1 => by
      by_cases hq : upF 64 (leaf piece) k m ps = root
      ·rw [ck_ok h0 h1 ⟨e1, e2⟩ f1 hq, toList_eq hq]; rfl
      ·rw [ck_root h0 h1 ⟨e1, e2⟩ f1 hq, toList_ne hq]; rfl
     generalize upF 64 (leaf piece) k m ps = y at HUP HCK
     generalize leaf piece = lf at HLF HUP
     clear h0 h1 d2 e1 e2 hall
     go_wp2_with (first | (go_at_call 49; (with_reducible refine HI1.out.mono ?_); rintro e w1 ⟨rfl, rfl⟩) | (go_at_call 49; (with_reducible refine HI2.out.mono ?_); rintro e w1 ⟨rfl, rfl⟩) | fail)
     refine HLF.out.mono ?_
     rintro e w2 ⟨rfl, b2⟩
     go_wp2_with fail
     refine (HUP.out w2 b2).mono ?_
     rintro e w3 ⟨x, rfl, hx, b3⟩
     have B3 := b2.trans (b3.mono b2.size)
     have HX : Hid (ps.length = szP 64 k m → x = y) := hx.2
     clear b2 b3 hx HUP HLF
     by_cases f1 : ps.length = szP 64 k m
     ·obtain rfl := HX.out f1
      have HC := HCK.out f1
      rw [decide_eq_true f1]
      clear f1 HX HCN HCK
      cases hq : x.toList == root.toList
      case false =>
       have HE : Hid (ckC root piece k m ps = 11) := by rw [hq] at HC; exact HC
       clear HC
       go_wp2_with fail
       go_ret
       exact ⟨retI HE.out.symm, B3⟩
      case true =>
       have HE : Hid (ckC root piece k m ps = 0) := by rw [hq] at HC; exact HC
       clear HC
       go_wp2_with fail
       go_ret
       exact ⟨retI HE.out.symm, B3⟩
     ·have HE : Hid (ckC root piece k m ps = 10) := HCN.out f1
      rw [decide_eq_false f1]
      clear f1 HX HCN HCK
      go_wp2_with fail
      go_ret
      exact ⟨retI HE.out.symm, B3⟩
end Go.Proofs.YtakfniknkejgpaaDoor.Pw
