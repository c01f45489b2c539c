/- Texts put together: Pv, Htg, Mw. -/
import Derived.Test.YtakfniknkejgpaaDoorMp18
import Derived.Test.YtakfniknkejgpaaDoorMp10
import Derived.Test.YtakfniknkejgpaaDoorMp16
import Derived.Test.YtakfniknkejgpaaDoorMp6
import Derived.Deep.RegionWith
/- ProvePiece: what both functions answer. -/
namespace Go.Proofs.YtakfniknkejgpaaDoor.Py
open Go.RowKit Go.Proofs.YtakfniknkejgpaaDoor.Sl Go.Proofs.YtakfniknkejgpaaDoor.By Go.Proofs.YtakfniknkejgpaaDoor.Ap Go.Proofs.YtakfniknkejgpaaDoor.Tx Go.Proofs.YtakfniknkejgpaaDoor.Sh Go.Proofs.YtakfniknkejgpaaDoor.Ho Go.Proofs.YtakfniknkejgpaaDoor.Se Go.Proofs.YtakfniknkejgpaaDoor.Ka Go.Proofs.YtakfniknkejgpaaDoor.Sx Go.Proofs.YtakfniknkejgpaaDoor.Pf Go.Proofs.YtakfniknkejgpaaDoor.Px

noncomputable def pvC (ts : List ByteArray) (i : Int) : Int := if pcC ts = 0 then (if inP i 0 ((ts.length : Int) - 1) = true then 0 else 4) else pcC ts
noncomputable def pvL (ts : List ByteArray) (i : Int) : List ByteArray := if pvC ts i = 0 then pathF 64 ts i.toNat else []
theorem pv_bad {ts : List ByteArray} {i : Int} (h : pcC ts ≠ 0) : pvC ts i = pcC ts ∧ pvL ts i = [] := by
 have e : pvC ts i = pcC ts := if_neg h
 exact ⟨e, by unfold pvL; rw [e, if_neg h]⟩
theorem pv_out {ts : List ByteArray} {i : Int} (h : pcC ts = 0) (hi : inP i 0 ((ts.length : Int) - 1) = false) : pvC ts i = 4 ∧ pvL ts i = [] := by
 have e : pvC ts i = 4 := by unfold pvC; rw [if_pos h, hi]; rfl
 exact ⟨e, by unfold pvL; rw [e]; rfl⟩
theorem pv_ok {ts : List ByteArray} {i : Int} (h : pcC ts = 0) (hi : inP i 0 ((ts.length : Int) - 1) = true) : pvC ts i = 0 ∧ pvL ts i = pathF 64 ts i.toNat := by
 have e : pvC ts i = 0 := by unfold pvC; rw [if_pos h, hi]; rfl
 exact ⟨e, by unfold pvL; rw [if_pos e]⟩
theorem inP_get {n a b : Int} (h : inP n a b = true) : a ≤ n ∧ n ≤ b := by
 unfold inP at h
 rw [Bool.and_eq_true, decide_eq_true_eq, decide_eq_true_eq] at h
 exact h
set_option maxRecDepth 100000 in
set_option maxHeartbeats 800000 in
theorem implProvePiece_any (v : Value) (ts : List ByteArray) (i : Int) (w : World) (h : RowT w v ts) (hl : ts.length ≤ 1048576) (hK : KTab w) (hp : 0 < w.heap.size) :
 Calls Tryd.prog 20 #[v, .int .i64 i] w fun e w' => ∃ u, e = .returned (.tuple #[u, .int .i64 (pvC ts i)]) ∧ OwnS w' w.heap.size u (pvL ts i) ∧ Below w.heap.size w w' := by
 have HF : Hid (Calls Tryd.prog 38 #[v] w fun e w' => e = .returned (.int .i64 (pcC ts)) ∧ w = w') := piecesFault_any v ts w h (by unfold maxLen; omega)
 have hrow := h
 obtain ⟨a, cap, rfl, _⟩ := h
 have HI : Hid (Calls Tryd.prog 43 #[.int .i64 i, .int .i64 0, .int .i64 ((ts.length : Int) - 1)] w fun e w' => e = .returned (.bool (inP i 0 ((ts.length : Int) - 1))) ∧ w = w') := within_any _ _ _ _
 by_cases h0 : pcC ts = 0
 ·have HP := pcC_get h0
  cases hin : inP i 0 ((ts.length : Int) - 1)
  case false =>
   have HE : Hid (pvC ts i = 4 ∧ pvL ts i = []) := pv_out h0 hin
   rw [h0] at HF
   rw [hin] at HI
   clear HP h0 hrow hin hK hp
   go_enter Tryd.func20, Tryd.ntmps20
   go_wp2_with fail
   refine HF.out.mono ?_
   rintro e w1 ⟨rfl, rfl⟩
   go_wp2_with fail
   refine HI.out.mono ?_
   rintro e w1 ⟨rfl, rfl⟩
   go_wp2_with fail
   go_ret2
   rw [HE.out.1, HE.out.2]
   exact ⟨_, rfl, OwnS.nil _ _, Below.refl _ _⟩
  case true =>
   have HE : Hid (pvC ts i = 0 ∧ pvL ts i = pathF 64 ts i.toNat) := pv_ok h0 hin
   obtain ⟨i1, i2⟩ := inP_get hin
   obtain ⟨k, rfl⟩ : ∃ k : Nat, i = (k : Int) := ⟨i.toNat, by omega⟩
   have HH : Hid (Calls Tryd.prog 44 #[.slice a ts.length cap, .int .i64 k] w fun e w' => ∃ u, e = .returned u ∧ OwnS w' w.heap.size u (pathF 64 ts k) ∧ Below w.heap.size w w') := rootsBeside_any 64 ts k _ w hrow (by omega) HP.1 (by decide) HP.small hK hp
   rw [Int.toNat_natCast] at HE
   rw [h0] at HF
   rw [hin] at HI
   clear HP h0 hrow hin hK hp i1 i2
   generalize pathF 64 ts k = ps at HE HH
   go_enter Tryd.func20, Tryd.ntmps20
   go_wp2_with fail
   refine HF.out.mono ?_
   rintro e w1 ⟨rfl, rfl⟩
   go_wp2_with fail
   refine HI.out.mono ?_
   rintro e w1 ⟨rfl, rfl⟩
   go_wp2_with fail
   refine HH.out.mono ?_
   rintro e w2 ⟨u, rfl, o2, b2⟩
   have O2 : Hid (OwnS w2 w.heap.size u ps) := o2
   clear o2
   go_wp2_with fail
   go_ret2
   rw [HE.out.1, HE.out.2]
   exact ⟨_, rfl, O2.out, b2⟩
 ·have HE : Hid (pvC ts i = pcC ts ∧ pvL ts i = []) := pv_bad h0
  have hne : (pcC ts != 0) = true := by simpa using h0
  generalize pcC ts = c at HF hne HE
  clear h0 hrow hK hp HI
  go_enter Tryd.func20, Tryd.ntmps20
  go_wp2_with fail
  refine HF.out.mono ?_
  rintro e w1 ⟨rfl, rfl⟩
  go_wp2_with fail
  go_ret2
  rw [HE.out.1, HE.out.2]
  exact ⟨_, rfl, OwnS.nil _ _, Below.refl _ _⟩
end Go.Proofs.YtakfniknkejgpaaDoor.Py

/- Bytes that are cut into pieces are put together again; each piece is proved: of no program. -/
namespace Go.Proofs.YtakfniknkejgpaaDoor.Hp
open Go.RowKit Go.Proofs.YtakfniknkejgpaaDoor.Sl Go.Proofs.YtakfniknkejgpaaDoor.By Go.Proofs.YtakfniknkejgpaaDoor.Ap Go.Proofs.YtakfniknkejgpaaDoor.Tx Go.Proofs.YtakfniknkejgpaaDoor.Sh Go.Proofs.YtakfniknkejgpaaDoor.Ho Go.Proofs.YtakfniknkejgpaaDoor.Se Go.Proofs.YtakfniknkejgpaaDoor.Ka Go.Proofs.YtakfniknkejgpaaDoor.Sx Go.Proofs.YtakfniknkejgpaaDoor.Pf Go.Proofs.YtakfniknkejgpaaDoor.Px Go.Proofs.YtakfniknkejgpaaDoor.Pg Go.Proofs.YtakfniknkejgpaaDoor.Py Go.Proofs.YtakfniknkejgpaaDoor.Pw
theorem cutTo_at (xs : List Int) : ∀ n k, k < n → tnth (cutTo xs n) k = strOfNums (pcn xs k)
 | 0, k, h => by omega
 | n + 1, k, h => by
   unfold cutTo
   by_cases e : k = n
   ·subst e
    unfold tnth
    rw [List.getD_eq_getElem?_getD, List.getElem?_append_right (by rw [cutTo_length]; exact Nat.le_refl _), cutTo_length, Nat.sub_self]
    rfl
   ·rw [tnth_append_left (by rw [cutTo_length]; omega)]
    exact cutTo_at xs n k (by omega)
theorem pcn_len (xs : List Int) (k : Nat) : (pcn xs k).length = min 32 (xs.length - 32 * k) := by unfold pcn; rw [List.length_take, List.length_drop]
theorem pcn_range {xs : List Int} (h : ∀ x ∈ xs, 0 ≤ x ∧ x ≤ 255) (k : Nat) : ∀ x ∈ pcn xs k, 0 ≤ x ∧ x ≤ 255 := fun x hx => h x (List.mem_of_mem_drop (List.mem_of_mem_take hx))
theorem cut_size {xs : List Int} {k : Nat} (h : k < cutN xs) : (tnth (cutTo xs (cutN xs)) k).size = min 32 (xs.length - 32 * k) := by
 rw [cutTo_at xs _ _ h, strOfNums_size, pcn_len]
theorem cut_le {xs : List Int} : ∀ t ∈ cutTo xs (cutN xs), t.size ≤ 32 := by
 intro t ht
 obtain ⟨i, hi, rfl⟩ := List.getElem_of_mem ht
 have h4 := tnth_at hi
 rw [List.getElem?_eq_getElem hi] at h4
 rw [Option.some.inj h4, cut_size (by rw [cutTo_length] at hi; exact hi)]
 omega
theorem cut_pcC {xs : List Int} (h : xs.length ≤ 2048) : pcC (cutTo xs (cutN xs)) = 0 := by
 have hn : cutN xs ≤ 64 := by unfold cutN; omega
 have hp : PcP (cutTo xs (cutN xs)) := by
  refine ⟨by rw [cutTo_length]; exact hn, fun i hi => ?_⟩
  rw [cutTo_length] at hi
  have hs := cut_size hi
  have hi2 := hi
  unfold cutN at hi2
  refine ⟨by rw [hs]; omega, by rw [hs]; omega, fun hl => ?_⟩
  rw [cutTo_length] at hl
  unfold cutN at hl
  rw [hs]; omega
 have hb : pcB (cutTo xs (cutN xs)) = true := by unfold pcB; exact @decide_eq_true _ (Classical.propDecidable _) hp
 unfold pcC
 rw [if_neg (by rw [cutTo_length]; omega), if_pos hb]
theorem cut_cat {xs : List Int} (hr : ∀ x ∈ xs, 0 ≤ x ∧ x ≤ 255) : ∀ k, (cutTo xs k).flatMap bys = xs.take (32 * k)
 | 0 => by simp [cutTo]
 | k + 1 => by
   unfold cutTo
   rw [List.flatMap_append, cut_cat hr k, List.flatMap_singleton, bys_str _ (pcn_range hr k)]
   unfold pcn
   rw [show 32 * (k + 1) = 32 * k + 32 by omega, List.take_add]
theorem cut_join {xs : List Int} (hr : ∀ x ∈ xs, 0 ≤ x ∧ x ≤ 255) : (cutTo xs (cutN xs)).flatMap bys = xs := by
 rw [cut_cat hr]
 refine List.take_of_length_le ?_
 unfold cutN; omega
theorem tnth_take {ts : List ByteArray} {k m : Nat} (h : k < m) : tnth (ts.take m) k = tnth ts k := by
 unfold tnth
 rw [List.getD_eq_getElem?_getD, List.getD_eq_getElem?_getD, List.getElem?_take, if_pos h]
theorem tnth_drop {ts : List ByteArray} {k m : Nat} (h : ¬ k < m) : tnth (ts.drop m) (k - m) = tnth ts k := by
 unfold tnth
 rw [List.getD_eq_getElem?_getD, List.getD_eq_getElem?_getD, List.getElem?_drop, show m + (k - m) = k by omega]
theorem snoc_parts (ps : List ByteArray) (r : ByteArray) : (ps ++ [r]).take ((ps ++ [r]).length - 1) = ps ∧ tnth (ps ++ [r]) ((ps ++ [r]).length - 1) = r := by
 have e : (ps ++ [r]).length - 1 = ps.length := by rw [List.length_append]; simp
 rw [e]
 refine ⟨by rw [List.take_append_of_le_length (Nat.le_refl _), List.take_length], ?_⟩
 unfold tnth
 rw [List.getD_eq_getElem?_getD, List.getElem?_append_right (Nat.le_refl _), Nat.sub_self]
 rfl
theorem haP_snoc {ps : List ByteArray} {r : ByteArray} (h : haP ps = true) (hr : r.size = 32) : haP (ps ++ [r]) = true := by
 unfold haP at h ⊢
 rw [List.all_append, h]
 simp [hr]
theorem path_ok : ∀ (f : Nat) (ts : List ByteArray) (k : Nat), k < ts.length → ts.length ≤ f → (∀ t ∈ ts, t.size ≤ 32) →
 (pathF f ts k).length = szP f k ts.length ∧ haP (pathF f ts k) = true ∧ upF f (leaf (tnth ts k)) k ts.length (pathF f ts k) = rootF f ts
 | 0, ts, k, h1, h2, _ => by omega
 | f + 1, ts, k, h1, h2, hs => by
   by_cases h : ts.length = 1
   ·obtain rfl : k = 0 := by omega
    rw [pathF_one h, szP_one h, upF_one h, rootF_one h]
    exact ⟨rfl, rfl, rfl⟩
   ·obtain ⟨q1, q2, _⟩ := half_lt (show 2 ≤ ts.length by omega)
    have hst : ∀ t ∈ ts.take (half ts.length), t.size ≤ 32 := fun t ht => hs t (List.mem_of_mem_take ht)
    have hsd : ∀ t ∈ ts.drop (half ts.length), t.size ≤ 32 := fun t ht => hs t (List.mem_of_mem_drop ht)
    have lt : (ts.take (half ts.length)).length = half ts.length := by rw [List.length_take]; omega
    have ld : (ts.drop (half ts.length)).length = ts.length - half ts.length := by rw [List.length_drop]
    by_cases hk : k < half ts.length
    ·obtain ⟨i1, i2, i3⟩ := path_ok f (ts.take (half ts.length)) k (by omega) (by omega) hst
     rw [pathF_left h hk, szP_left h hk, upF_left h hk, rootF_more h]
     rw [lt, tnth_take hk] at i3
     rw [lt] at i1
     obtain ⟨s1, s2⟩ := snoc_parts (pathF f (ts.take (half ts.length)) k) (rootF f (ts.drop (half ts.length)))
     rw [s1, s2, i3]
     exact ⟨by rw [List.length_append, i1]; rfl, haP_snoc i2 (rootF_size f _ (by omega) (by omega) hsd), rfl⟩
    ·obtain ⟨i1, i2, i3⟩ := path_ok f (ts.drop (half ts.length)) (k - half ts.length) (by omega) (by omega) hsd
     rw [pathF_right h hk, szP_right h hk, upF_right h hk, rootF_more h]
     rw [ld, tnth_drop hk] at i3
     rw [ld] at i1
     obtain ⟨s1, s2⟩ := snoc_parts (pathF f (ts.drop (half ts.length)) (k - half ts.length)) (rootF f (ts.take (half ts.length)))
     rw [s1, s2, i3]
     exact ⟨by rw [List.length_append, i1]; rfl, haP_snoc i2 (rootF_size f _ (by omega) (by omega) hst), rfl⟩
theorem pieces_ok {xs : List Int} (hr : ∀ x ∈ xs, 0 ≤ x ∧ x ≤ 255) (h0 : 1 ≤ xs.length) (h1 : xs.length ≤ 2048) :
 cutC xs = 0 ∧ pcC (cutL xs) = 0 ∧ (cutL xs).flatMap bys = xs ∧ (1 ≤ (cutL xs).length ∧ (cutL xs).length ≤ 64) ∧ (∀ t ∈ cutL xs, t.size ≤ 32) ∧ prO (cutL xs) = rootF 64 (cutL xs) ∧ (rootF 64 (cutL xs)).size = 32 ∧
 ∀ k, k < (cutL xs).length → pvC (cutL xs) (k : Int) = 0 ∧ pvL (cutL xs) (k : Int) = pathF 64 (cutL xs) k ∧ ckC (rootF 64 (cutL xs)) (tnth (cutL xs) k) (k : Int) ((cutL xs).length : Int) (pathF 64 (cutL xs) k) = 0 := by
 obtain ⟨c1, c2⟩ := cut_ok (xs := xs) (by omega)
 rw [c2]
 have hl : (cutTo xs (cutN xs)).length = cutN xs := cutTo_length _ _
 have hn : 1 ≤ cutN xs ∧ cutN xs ≤ 64 := by unfold cutN; omega
 have hp := cut_pcC h1
 have hz := cut_le (xs := xs)
 have hroot := rootF_size 64 (cutTo xs (cutN xs)) (by omega) (by omega) hz
 refine ⟨c1, hp, cut_join hr, by omega, hz, ?_, hroot, fun k hk => ?_⟩
 ·unfold prO; rw [if_pos hp, if_neg (by omega)]
 ·have hin : inP (k : Int) 0 (((cutTo xs (cutN xs)).length : Int) - 1) = true := by
   unfold inP; rw [Bool.and_eq_true, decide_eq_true_eq, decide_eq_true_eq]; omega
  have hin2 : inP ((cutTo xs (cutN xs)).length : Int) 1 64 = true := by
   unfold inP; rw [Bool.and_eq_true, decide_eq_true_eq, decide_eq_true_eq]; omega
  obtain ⟨v1, v2⟩ := pv_ok hp hin
  obtain ⟨p1, p2, p3⟩ := path_ok 64 (cutTo xs (cutN xs)) k hk (by omega) hz
  have hs := hz _ (tnth_mem hk)
  have hpl := pathF_length 64 (cutTo xs (cutN xs)) k
  refine ⟨v1, by rw [v2]; rfl, ck_ok (by omega) (by rw [p2]; simp; omega) ⟨hin2, hin⟩ ?_ ?_⟩
  ·rw [p1]; rfl
  ·exact p3
end Go.Proofs.YtakfniknkejgpaaDoor.Hp

/- The laws' marks on tables. -/
namespace Go.Proofs.YtakfniknkejgpaaDoor.Mw
open Go.RowKit Go.Proofs.YtakfniknkejgpaaDoor.Sl Go.Proofs.YtakfniknkejgpaaDoor.By Go.Proofs.YtakfniknkejgpaaDoor.Ap Go.Proofs.YtakfniknkejgpaaDoor.Tx Go.Proofs.YtakfniknkejgpaaDoor.Tb Go.Proofs.YtakfniknkejgpaaDoor.Tw

theorem ret_str {a b : ByteArray} (h : a = b) : Ending.returned (.string a) = .returned (.string b) := by rw [h]
structure Mid (B C : Nat) (w w' : World) : Prop where
 os : w'.os = w.os
 tape : w'.tape = w.tape
 output : w'.output = w.output
 size : w.heap.size ≤ w'.heap.size
 block : ∀ k, k < w.heap.size → (k < B ∨ C ≤ k) → w'.heap[k]? = w.heap[k]?
theorem Mid.refl (B C : Nat) (w : World) : Mid B C w w := ⟨rfl, rfl, rfl, Nat.le_refl _, fun _ _ _ => rfl⟩
theorem Mid.trans {B C : Nat} {w w1 w2 : World} (h : Mid B C w w1) (g : Mid B C w1 w2) : Mid B C w w2 :=
 ⟨g.os.trans h.os, g.tape.trans h.tape, g.output.trans h.output, Nat.le_trans h.size g.size, fun k hk hn => (g.block k (Nat.lt_of_lt_of_le hk h.size) hn).trans (h.block k hk hn)⟩
theorem Mid.of_below {B C : Nat} {w w1 : World} (h : Below w.heap.size w w1) : Mid B C w w1 := ⟨h.os, h.tape, h.output, h.size, fun k hk _ => h.block k hk⟩
theorem Mid.set {B C : Nat} {w : World} {g : Nat} (h1 : B ≤ g) (h2 : g < C) (j : Nat) (x : Value) : Mid B C w (w.setCell ⟨g, j, none⟩ x) :=
 ⟨rfl, rfl, rfl, by simp, fun k _ hk => Below.heap_setCell w ⟨g, j, none⟩ x k (fun e => by have e' : k = g := e; omega)⟩
theorem Mid.below {B C : Nat} {w w1 : World} (h : Mid B C w w1) (hB : B ≤ w.heap.size) : Below B w w1 := ⟨h.os, h.tape, h.output, h.size, fun k hk => h.block k (Nat.lt_of_lt_of_le hk hB) (.inl hk)⟩
def Wr (w : World) (g n : Nat) : Prop := ∃ A t, w.heap[g]? = some (.cells A t (0, 0)) ∧ n ≤ A.size
theorem Wr.lt {w : World} {g n : Nat} (h : Wr w g n) : g < w.heap.size := by obtain ⟨A, t, h, _⟩ := h; exact (Array.getElem?_eq_some_iff.1 h).1
theorem Wr.below {w w' : World} {g n : Nat} (h : Wr w g n) (hb : Below w.heap.size w w') : Wr w' g n := by
 obtain ⟨A, t, h, hn⟩ := h
 exact ⟨A, t, (hb.block g (Array.getElem?_eq_some_iff.1 h).1).trans h, hn⟩
theorem Wr.set {w : World} {g n : Nat} (h : Wr w g n) (p j : Nat) (x : Value) : Wr (w.setCell ⟨p, j, none⟩ x) g n := by
 obtain ⟨A, t, h, hn⟩ := h
 by_cases e : p = g
 ·subst e
  exact ⟨_, t, blk_set h j x, by rw [Array.size_setIfInBounds]; exact hn⟩
 ·exact ⟨A, t, (blk_far (fun h => e h.symm) j x).trans h, hn⟩
theorem Wr.cell {w : World} {g n : Nat} (h : Wr w g n) {j : Nat} (hj : j < n) : (∃ x, w.cell? ⟨g, j, none⟩ = some x) ∧ w.frozen? ⟨g, j, none⟩ = false := by
 obtain ⟨A, t, h, hn⟩ := h
 obtain ⟨c, f⟩ := blk_cell h j (x := A[j]'(by omega)) (Array.getElem?_eq_getElem (by omega))
 exact ⟨⟨_, c⟩, f⟩
def Kw (w w' : World) : Prop := ∀ g n, Wr w g n → Wr w' g n
theorem Kw.trans {w w1 w2 : World} (h : Kw w w1) (g : Kw w1 w2) : Kw w w2 := fun a n x => g a n (h a n x)
def WrL (B C : Nat) (w : World) (g : Nat) (ns : List Nat) : Prop := Wr w g (ns.length * 5) ∧ ∀ (j m : Nat), ns[j]? = some m → ∃ h, w.cell? ⟨g, j * 5 + 4, none⟩ = some (.slice (some ⟨h, 0, none⟩) m m) ∧ B ≤ h ∧ h < C ∧ h ≠ g ∧ Wr w h (m * 2)
theorem WrL.below {B C : Nat} {w w' : World} {g : Nat} {ns : List Nat} (h : WrL B C w g ns) (hb : Below w.heap.size w w') : WrL B C w' g ns :=
 ⟨h.1.below hb, fun j m hj => by
   obtain ⟨q, h1, h2, h3, h4, h5⟩ := h.2 j m hj
   exact ⟨q, (hb.cell (p := ⟨g, _, none⟩) h.1.lt).trans h1, h2, h3, h4, h5.below hb⟩⟩
theorem WrL.set {B C : Nat} {w : World} {g : Nat} {ns : List Nat} (h : WrL B C w g ns) (i : Nat) (x : Value) (hi : ∀ j, i ≠ j * 5 + 4) : WrL B C (w.setCell ⟨g, i, none⟩ x) g ns :=
 ⟨h.1.set _ _ _, fun j m hj => by
   obtain ⟨q, h1, h2, h3, h4, h5⟩ := h.2 j m hj
   exact ⟨q, (World.cell?_setCell_other _ _ _ _ (fun e => hi j (by have := congrArg Addr.off e; exact this))).trans h1, h2, h3, h4, h5.set _ _ _⟩⟩
theorem WrL.kept {B C : Nat} {w w' : World} {g p : Nat} {ns : List Nat} (h : WrL B C w g ns) (hp : p ≠ g) (hk : Kw w w') (ho : ∀ k, k < w.heap.size → k ≠ p → w'.heap[k]? = w.heap[k]?) : WrL B C w' g ns :=
 ⟨hk _ _ h.1, fun j m hj => by
   obtain ⟨q, h1, h2, h3, h4, h5⟩ := h.2 j m hj
   exact ⟨q, (World.cell?_of_block (w := w) (ho g h.1.lt (Ne.symm hp))).trans h1, h2, h3, h4, hk _ _ h5⟩⟩
def TabW (B C : Nat) (w : World) (gl gs : Nat) (ls : List Lk) (ss : List Sn) : Prop := (B ≤ gl ∧ gl < C ∧ B ≤ gs ∧ gs < C) ∧ WrL B C w gl (ls.map fun x => x.ws.length) ∧ Wr w gs (ss.length * 6)
theorem TabW.below {B C : Nat} {w w' : World} {gl gs : Nat} {ls : List Lk} {ss : List Sn} (h : TabW B C w gl gs ls ss) (hb : Below w.heap.size w w') : TabW B C w' gl gs ls ss := ⟨h.1, h.2.1.below hb, h.2.2.below hb⟩
end Go.Proofs.YtakfniknkejgpaaDoor.Mw
