/- Texts put together: Tk, Pg, Px. -/
import Derived.Test.YtakfniknkejgpaaDoorMp3
import Derived.Test.YtakfniknkejgpaaDoorMp9
import Derived.Lib.Strings
import Derived.Lib.Small
import Derived.Lib.Walk
import Derived.Lib.BitFns
/- Texts appended to, and what is left alone. -/
namespace Go.Proofs.YtakfniknkejgpaaDoor.Tx
open Go.RowKit Go.Proofs.YtakfniknkejgpaaDoor.Sl Go.Proofs.YtakfniknkejgpaaDoor.By Go.Proofs.YtakfniknkejgpaaDoor.Ap

def Away (v u : Value) : Prop := ∀ k, v.ownBlock = some k → u.ownBlock ≠ some k
theorem RowT.kp {w w' : World} {v u u' : Value} {ts : List ByteArray} (h : RowT w v ts) (ha : Away v u) (hk : Kp w w' u u') : RowT w' v ts := by
 obtain ⟨a, cap, rfl, h⟩ := h
 refine ⟨a, cap, rfl, ?_⟩
 rcases h with h | ⟨b, off, rfl, hc, hlt, h⟩
 ·exact .inl h
 ·have hb := hk.block b hlt (fun e => ha b rfl e.symm)
  exact .inr ⟨b, off, rfl, hc, Nat.lt_of_lt_of_le hlt hk.size, fun i hi => (World.cell?_of_block (a := ⟨b, off + i, none⟩) hb).trans (h i hi)⟩
theorem OwnS.kept {w w' : World} {B : Nat} {v u u' : Value} {ts : List ByteArray} (h : OwnS w B v ts) (ha : Away v u) (hk : Kp w w' u u') : OwnS w' B v ts := by
 obtain ⟨hl, h⟩ := h
 refine ⟨hl, ?_⟩
 rcases h with h | ⟨g, cap, cur, rfl, hB, hgb, h⟩
 ·exact .inl h
 ·exact .inr ⟨g, cap, cur, rfl, hB, (hk.block g (Array.getElem?_eq_some_iff.1 hgb).1 (fun e => ha g rfl e.symm)).trans hgb, h⟩
end Go.Proofs.YtakfniknkejgpaaDoor.Tx

/- Bytes cut into pieces: impl.partsOf, CutPieces, the specification's l09Cut and CutPieces. -/
namespace Go.Proofs.YtakfniknkejgpaaDoor.Pg
open Go.RowKit Go.Proofs.YtakfniknkejgpaaDoor.Sl Go.Proofs.YtakfniknkejgpaaDoor.By Go.Proofs.YtakfniknkejgpaaDoor.Ap Go.Proofs.YtakfniknkejgpaaDoor.Tx Go.Proofs.YtakfniknkejgpaaDoor.Pf

theorem nth_take {xs : List Int} {n i : Nat} (h : i < n) : nth (xs.take n) i = nth xs i := by
 unfold nth; rw [List.getD_eq_getElem?_getD, List.getD_eq_getElem?_getD, List.getElem?_take, if_pos h]
theorem nth_drop (xs : List Int) (n i : Nat) : nth (xs.drop n) i = nth xs (n + i) := by
 unfold nth; rw [List.getD_eq_getElem?_getD, List.getD_eq_getElem?_getD, List.getElem?_drop]
theorem rowB_take {w : World} {a : Option Addr} {cap n : Nat} {xs : List Int} (h : RowB w (.slice a xs.length cap) xs) (hn : n ≤ xs.length) : RowB w (.slice a n cap) (xs.take n) := by
 obtain ⟨a', cap', e, h, hr⟩ := h
 simp only [Value.slice.injEq, true_and] at e
 obtain ⟨rfl, rfl⟩ := e
 have hl : (xs.take n).length = n := by rw [List.length_take]; omega
 refine ⟨a, cap, by rw [hl], ?_, fun x hx => hr x (List.mem_of_mem_take hx)⟩
 rcases h with rfl | ⟨b, off, rfl, hc, hlt, h⟩
 ·exact .inl (by simp)
 ·refine .inr ⟨b, off, rfl, by rw [hl]; omega, hlt, fun i hi => ?_⟩
  rw [hl] at hi
  rw [nth_take hi]
  exact h i (by omega)
theorem rowB_drop {w : World} {a : Option Addr} {cap n : Nat} {xs : List Int} (h : RowB w (.slice a xs.length cap) xs) (hn : n ≤ xs.length) : RowB w (.slice (if cap = n then a else a.map (·.add n)) (xs.length - n) (cap - n)) (xs.drop n) := by
 obtain ⟨a', cap', e, h, hr⟩ := h
 simp only [Value.slice.injEq, true_and] at e
 obtain ⟨rfl, rfl⟩ := e
 refine ⟨_, cap - n, by rw [List.length_drop], ?_, fun x hx => hr x (List.mem_of_mem_drop hx)⟩
 by_cases he : xs.length = n
 ·exact .inl (List.drop_eq_nil_of_le (by omega))
 ·rcases h with rfl | ⟨b, off, rfl, hc, hlt, h⟩
  ·exact .inl (by simp)
  ·rw [if_neg (by omega)]
   refine .inr ⟨b, off + n, by simp [addr_add], by rw [List.length_drop]; omega, hlt, fun i hi => ?_⟩
   rw [List.length_drop] at hi
   rw [nth_drop, Nat.add_assoc]
   exact h (n + i) (by omega)
theorem run_conv_row {P : Program} (w : World) (src e dst : TypeId) (hs : P.underlying src = some (.slice e)) (he : P.underlying e = some (.int .u8)) (hd : P.underlying dst = some .string)
 (v : Value) (zs : List Int) (h : RowB w v zs) (hne : zs ≠ []) : (convert src dst v).run P w = .ok (.string (strOfNums zs)) w := by
 obtain ⟨a, cap, rfl, h, _⟩ := h
 rcases h with rfl | ⟨b, off, rfl, hc, hb, h⟩
 ·exact absurd rfl hne
 ·refine run_convert_bytes_arg w src e hs he b off zs.length cap zs rfl (fun i hi => ?_) dst hd
  exact h i hi

def pcn (xs : List Int) (k : Nat) : List Int := (xs.drop (32 * k)).take 32
def cutTo (xs : List Int) : Nat → List ByteArray
 | 0 => []
 | k + 1 => cutTo xs k ++ [strOfNums (pcn xs k)]
theorem cutTo_length (xs : List Int) : ∀ k, (cutTo xs k).length = k
 | 0 => rfl
 | k + 1 => by unfold cutTo; rw [List.length_append, cutTo_length xs k]; rfl
def cutN (xs : List Int) : Nat := (xs.length + 31) / 32
def cutC (xs : List Int) : Int := if 65536 < xs.length then 2 else if 2048 < xs.length then 7 else 0
def cutL (xs : List Int) : List ByteArray := if cutC xs = 0 then cutTo xs (cutN xs) else []
theorem cut_long {xs : List Int} (h : 65536 < xs.length) : cutC xs = 2 ∧ cutL xs = [] := by
 have e : cutC xs = 2 := if_pos h
 exact ⟨e, by unfold cutL; rw [e]; rfl⟩
theorem cut_full {xs : List Int} (h0 : ¬ 65536 < xs.length) (h : 2048 < xs.length) : cutC xs = 7 ∧ cutL xs = [] := by
 have e : cutC xs = 7 := by unfold cutC; rw [if_neg h0, if_pos h]
 exact ⟨e, by unfold cutL; rw [e]; rfl⟩
theorem cut_ok {xs : List Int} (h : ¬ 2048 < xs.length) : cutC xs = 0 ∧ cutL xs = cutTo xs (cutN xs) := by
 have e : cutC xs = 0 := by unfold cutC; rw [if_neg (by omega), if_neg h]
 exact ⟨e, by unfold cutL; rw [e]; rfl⟩

def OwnP (w : World) (B : Nat) (v : Value) (vs : List Value) : Prop := w.ownsRow B 22 1 v vs.length vs
theorem OwnP.cell {w : World} {B : Nat} {v : Value} {vs : List Value} (h : OwnP w B v vs) {j : Nat} {u : Value} (hj : vs[j]? = some u) : ∃ g cap, v = .slice (some ⟨g, 0, none⟩) vs.length cap ∧ vs.length ≤ cap ∧ g < w.heap.size ∧ w.cell? ⟨g, j, none⟩ = some u := by
 have hlt : j < vs.length := (List.getElem?_eq_some_iff.1 hj).1
 obtain ⟨hl, h⟩ := h
 rcases h with ⟨rfl, h0⟩ | ⟨g, cap, cur, rfl, hB, hg, hc, _, hs, htk⟩
 ·omega
 ·refine ⟨g, cap, rfl, hc, (Array.getElem?_eq_some_iff.1 hg).1, ?_⟩
  rw [Joins.cell_of_block hg j]
  have h1 : (cur.toList.take (vs.length * 1))[j]? = some u := by rw [htk]; exact hj
  rw [List.getElem?_take] at h1
  split at h1
  ·simpa using h1
  ·cases h1
theorem OwnP.form {w : World} {B : Nat} {v : Value} {vs : List Value} (h : OwnP w B v vs) : ∃ a cap, v = .slice a vs.length cap := by
 obtain ⟨hl, h⟩ := h
 rcases h with ⟨rfl, h0⟩ | ⟨g, cap, cur, rfl, _⟩
 ·exact ⟨none, 0, by rw [h0]⟩
 ·exact ⟨_, _, rfl⟩
theorem infoP : (Tryd.prog.info? 22).map (fun i => (i.zero, i.size, i.bytes)) = some (some (.slice none 0 0), 1, 24) := by kernel_rfl
theorem list_part {P : Program} {ops : Array Oper} {rest : List Oper} {o : Oper} {a : Act} {Q : Exit → Act → World → Prop} (hgd : o.guard = none) (s x : Operand) (t : TypeId)
 (ho : o.op = .call { callee := .builtin .append, args := #[s, x], argTypes := #[t, t] }) (i : TypeInfo) (ht : P.underlying t = some (.slice 22)) (hi : P.info? 22 = some i) (hz : i.zero = some (.slice none 0 0))
 (hsize : i.size = 1) (hby : i.bytes = 24) (B : Nat) (w0 W : World) (v : Value) (vs : List Value) (ad : Option Addr) (n c : Nat) (hs : a.eval s = v) (hown : OwnP W B v vs) (hg0 : Below B w0 W) (hB : B ≤ W.heap.size)
 (hx : a.eval x = .slice (some ⟨W.heap.size, 0, none⟩) 1 1) (hlen : vs.length ≤ 1000000)
 (h : ∀ v' w', OwnP w' B v' (vs ++ [.slice ad n c]) → Below B w0 w' → W.heap.size ≤ w'.heap.size → wpList P ops Q rest (a.put o.dst v') w') : wpList P ops Q (o :: rest) a (W.alloc (.cells #[.slice ad n c] 22)) := by
 refine wpList_append_own _ hgd s x t ho B 22 i (.slice none 0 0) 1 24 ht hi hz hsize hby rfl (by decide) v vs.length _ hs (hown.alloc _) ⟨W.heap.size, 0, none⟩ 1 1 [.slice ad n c] hx (by simp) ?_ ?_ ?_ ?_ ?_ ?_
 ·have := World.news_of_block (cs := #[.slice ad n c]) (t := 22) (fr := (0, 0)) (heap_alloc_new W _)
  simpa using this
 ·intro z hz
  rw [List.mem_singleton.1 hz]
  rfl
 ·unfold maxLen; omega
 ·omega
 ·simp; omega
 ·intro v' w' h1 h2 _
  have hs2 := h2.size
  simp at hs2
  refine h v' w' (by unfold OwnP; simpa using h1) ?_ (by omega)
  exact (hg0.alloc hB _).grown h2 (by simp; omega) (fun k hk => (World.ownsRow.lt hown k hk).1)

def slen : Value → Nat
 | .slice _ n _ => n
 | _ => 0
set_option maxRecDepth 100000 in
set_option maxHeartbeats 1600000 in
theorem partsOf_any (v : Value) (xs : List Int) (w : World) (h : RowB w v xs) (hl : xs.length ≤ 2048) :
 Calls Tryd.prog 36 #[v] w fun e w' => ∃ u, e = .returned u ∧ (∃ vs, vs.length = cutN xs ∧ OwnP w' w.heap.size u vs ∧ ∀ j, j < cutN xs → ∃ x, vs[j]? = some x ∧ RowB w x (pcn xs j)) ∧ Below w.heap.size w w' := by
 obtain ⟨i0, hi0, hz0, hz1, hz2⟩ := info_parts infoP
 have HR : Hid (RowB w v xs) := h
 have HL : Hid (∀ _ : Unit, xs.length ≤ 2048) := fun _ => hl
 obtain ⟨a, cap, rfl, _⟩ := h
 clear hl
 go_enter Tryd.func36, Tryd.ntmps36
 go_wp2_with fail
 go_loopw [0, 3] (fun b p wr => ∃ (k : Nat) (vs : List Value), k ≤ cutN xs ∧ vs.length = k ∧ RowB w b (xs.drop (32 * k)) ∧ OwnP wr w.heap.size p vs ∧ Hid (∀ j, j < k → ∃ x, vs[j]? = some x ∧ RowB w x (pcn xs j)) ∧ Below w.heap.size w wr) (fun b _ _ => slen b)
 case atStart => exact ⟨0, [], by omega, rfl, HR.out, World.ownsRow_nil _ _ _ _, fun j hj => absurd hj (by omega), Below.refl _ _⟩
 case round =>
  clear HR
  obtain ⟨k, vs, hk, HV, hb, ho, HI, hg⟩ := hrel
  obtain ⟨a', cap', rfl, hb2⟩ := id hb
  have hlen : (xs.drop (32 * k)).length = xs.length - 32 * k := List.length_drop
  rw [hlen] at hb ⊢
  have HV' : Hid (vs.length = k) := HV
  have hvl : vs.length ≤ 1000000 := by have := HL.out (); unfold cutN at hk; omega
  have HD : Hid ((xs.drop (32 * k)).length = xs.length - 32 * k) := hlen
  have hB : w.heap.size ≤ wr.heap.size := hg.size
  by_cases h0 : xs.length - 32 * k = 0
  ·have HK : Hid (k = cutN xs) := by show _ = _; unfold cutN at hk ⊢; omega
   have HO : Hid (OwnP wr w.heap.size u3 vs) := ho
   rw [h0]
   clear hb hb2 HV hlen ho h0
   go_wp2_with fail
   go_ret
   exact ⟨_, rfl, ⟨vs, by rw [HV'.out, HK.out], HO.out, by rw [← HK.out]; exact HI.out⟩, hg⟩
  ·have hcap : xs.length - 32 * k ≤ cap' := by
    rcases hb2.1 with hn | ⟨_, _, _, hc, _⟩
    ·rw [hn] at hlen; simp at hlen; omega
    ·omega
   have hK : k + 1 ≤ cutN xs := by unfold cutN at hk ⊢; omega
   have HBR : Hid (RowB w (.slice a' (xs.drop (32 * k)).length cap') (xs.drop (32 * k))) := by show RowB _ _ _; rw [hlen]; exact hb
   have HO : Hid (OwnP wr w.heap.size u3 vs) := ho
   obtain ⟨n, HN⟩ : ∃ n, Hid (xs.length - 32 * k = n) := ⟨_, rfl⟩
   rw [HN.out] at h0 hcap HD ⊢
   clear hb hb2 HV hlen ho
   have hn0 : (0 : Int) < (n : Int) := by omega
   by_cases h32 : 32 < n
   ·have h32' : (32 : Int) < (n : Int) := by omega
    have HP : Hid (RowB w (.slice a' 32 cap') (pcn xs k)) := rowB_take HBR.out (by rw [HD.out]; omega)
    have HQ : Hid (RowB w (.slice (a'.map (·.add 32)) (n - 32) (cap' - 32)) (xs.drop (32 * (k + 1)))) := by
     have := rowB_drop HBR.out (show 32 ≤ (xs.drop (32 * k)).length by rw [HD.out]; omega)
     rw [HD.out, List.drop_drop, if_neg (by omega)] at this
     rw [show 32 * (k + 1) = 32 * k + 32 by omega]
     exact this
    have HJ : Hid (∀ j, j < k + 1 → ∃ x, (vs ++ [Value.slice a' 32 cap'])[j]? = some x ∧ RowB w x (pcn xs j)) := fun j hj => by
     by_cases e : j < k
     ·obtain ⟨x, h1, h2⟩ := HI.out j e
      exact ⟨x, by rw [List.getElem?_append_left (by rw [HV'.out]; exact e)]; exact h1, h2⟩
     ·obtain rfl : j = k := by omega
      exact ⟨_, by rw [List.getElem?_append_right (by rw [HV'.out]; exact Nat.le_refl _), HV'.out, Nat.sub_self]; rfl, HP.out⟩
    have hc32 : ¬ cap' = 32 := by omega
    go_wp2_with (at_builtin; go_must (refine list_part (by rfl) _ _ 66 (by rfl) i0 Tryd.underlying66 hi0 hz0 hz1 hz2 w.heap.size w wr _ vs _ _ _ (by rfl) HO.out hg hB (by rfl) hvl ?_; intro v3 w3 o3 b3 s3))
    try simp only [show (min 32 (n : Int)).toNat = 32 by omega] at o3 ⊢
    exact ⟨⟨k + 1, _, hK, by rw [List.length_append, HV'.out]; rfl, HQ.out, o3, HJ, b3⟩, by simp [slen]; omega⟩
   ·have h32' : ¬ (32 : Int) < (n : Int) := by omega
    have hm : (if (n : Int) < 32 then (n : Int) else 32) = (n : Int) := by split <;> omega
    have HP : Hid (RowB w (.slice a' n cap') (pcn xs k)) := by
     have := rowB_take HBR.out (show n ≤ (xs.drop (32 * k)).length by rw [HD.out]; omega)
     unfold pcn
     rw [List.take_of_length_le (by rw [HD.out]; omega)]
     rw [List.take_of_length_le (by rw [HD.out]; omega)] at this
     exact this
    have HQ : Hid (∀ b c, RowB w (.slice b 0 c) (xs.drop (32 * (k + 1)))) := fun b c => by
     have e : xs.drop (32 * (k + 1)) = [] := List.drop_eq_nil_of_le (by have := HN.out; omega)
     rw [e]
     exact ⟨b, c, rfl, .inl rfl, fun x hx => by cases hx⟩
    have HJ : Hid (∀ j, j < k + 1 → ∃ x, (vs ++ [Value.slice a' n cap'])[j]? = some x ∧ RowB w x (pcn xs j)) := fun j hj => by
     by_cases e : j < k
     ·obtain ⟨x, h1, h2⟩ := HI.out j e
      exact ⟨x, by rw [List.getElem?_append_left (by rw [HV'.out]; exact e)]; exact h1, h2⟩
     ·obtain rfl : j = k := by omega
      exact ⟨_, by rw [List.getElem?_append_right (by rw [HV'.out]; exact Nat.le_refl _), HV'.out, Nat.sub_self]; rfl, HP.out⟩
    by_cases hcn : cap' = n
    ·subst hcn
     go_wp2_with (at_builtin; go_must (refine list_part (by rfl) _ _ 66 (by rfl) i0 Tryd.underlying66 hi0 hz0 hz1 hz2 w.heap.size w wr _ vs _ _ _ (by rfl) HO.out hg hB (by rfl) hvl ?_; intro v3 w3 o3 b3 s3))
     try simp only [show (min 32 (cap' : Int)).toNat = cap' by omega] at o3 ⊢
     exact ⟨⟨k + 1, _, hK, by rw [List.length_append, HV'.out]; rfl, by first | exact HQ.out _ _ | (simp; exact HQ.out _ _), o3, HJ, b3⟩, by simp [slen]; omega⟩
    ·go_wp2_with (at_builtin; go_must (refine list_part (by rfl) _ _ 66 (by rfl) i0 Tryd.underlying66 hi0 hz0 hz1 hz2 w.heap.size w wr _ vs _ _ _ (by rfl) HO.out hg hB (by rfl) hvl ?_; intro v3 w3 o3 b3 s3))
     try simp only [show (min 32 (n : Int)).toNat = n by omega] at o3 ⊢
     exact ⟨⟨k + 1, _, hK, by rw [List.length_append, HV'.out]; rfl, by first | exact HQ.out _ _ | (simp; exact HQ.out _ _), o3, HJ, b3⟩, by simp [slen]; omega⟩
end Go.Proofs.YtakfniknkejgpaaDoor.Pg

/- Where a tree of pieces forks: impl.forkOf, the specification's l09Half. -/
namespace Go.Proofs.YtakfniknkejgpaaDoor.Px
open Go.RowKit Go.Proofs.YtakfniknkejgpaaDoor.Pf

def half (n : Nat) : Nat := if n ≤ 2 then 1 else if n ≤ 4 then 2 else if n ≤ 8 then 4 else if n ≤ 16 then 8 else if n ≤ 32 then 16 else 32
theorem half_lt {n : Nat} (h : 2 ≤ n) : 1 ≤ half n ∧ half n < n ∧ half n ≤ 32 := by
 unfold half
 repeat' split
 all_goals omega
theorem bit_half : ∀ x : Fin 64, 1 ≤ x.val → (Lib.bitLen x.val = 1 ∧ half (x.val + 1) = 1) ∨ (Lib.bitLen x.val = 2 ∧ half (x.val + 1) = 2) ∨ (Lib.bitLen x.val = 3 ∧ half (x.val + 1) = 4) ∨ (Lib.bitLen x.val = 4 ∧ half (x.val + 1) = 8) ∨ (Lib.bitLen x.val = 5 ∧ half (x.val + 1) = 16) ∨ (Lib.bitLen x.val = 6 ∧ half (x.val + 1) = 32) := by decide +kernel
theorem tab64 : ∀ (x : Fin 64) (h : x.val < Lib.len8tab.size), wrap64 (wrap64 ((Lib.len8tab[x.val]'h).toNat : Int)) = (Lib.bitLen x.val : Int) := by decide +kernel
set_option maxRecDepth 100000 in
set_option maxHeartbeats 1000000 in
theorem len64_any (x : Int) (w : World) (h0 : 0 ≤ x) (h1 : x < 64) : Calls Tryd.prog 112 #[.int .u64 x] w fun e w' => e = .returned (.int .i64 (Lib.bitLen x.toNat)) ∧ w = w' := by
 have q1 : ¬ 4294967296 ≤ x := by omega
 have q2 : ¬ 65536 ≤ x := by omega
 have q3 : ¬ 256 ≤ x := by omega
 have hsz : x < (Lib.len8tab.size : Int) := by have : Lib.len8tab.size = 256 := by decide +kernel
                                               omega
 go_enter Tryd.func112, Tryd.ntmps112
 go_wp2
 go_ret
 refine ⟨congrArg Ending.returned (congrArg (Value.int IntKind.i64) ?_), rfl⟩
 exact tab64 ⟨x.toNat, by omega⟩ (by show x.toNat < _; omega)
set_option maxRecDepth 100000 in
theorem len_any (x : Int) (w : World) (h0 : 0 ≤ x) (h1 : x < 64) : Calls Tryd.prog 97 #[.int .u64 x] w fun e w' => e = .returned (.int .i64 (Lib.bitLen x.toNat)) ∧ w = w' := by
 have HL : Hid (Calls Tryd.prog 112 #[.int .u64 x] w fun e w' => e = .returned (.int .i64 (Lib.bitLen x.toNat)) ∧ w = w') := len64_any x w h0 h1
 generalize (Lib.bitLen x.toNat : Int) = z at HL
 go_enter Tryd.func97, Tryd.ntmps97
 go_wp2_with fail
 refine HL.out.mono ?_
 rintro e w1 ⟨rfl, rfl⟩
 go_wp2_with fail
 go_ret
 exact ⟨rfl, rfl⟩
set_option maxRecDepth 100000 in
set_option maxHeartbeats 1000000 in
theorem forkOf_any (n : Nat) (w : World) (h2 : 2 ≤ n) (h64 : n ≤ 64) : Calls Tryd.prog 71 #[.int .i64 n] w fun e w' => e = .returned (.int .i64 (half n)) ∧ w = w' := by
 have HL0 := len_any ((n : Int) - 1) w (by omega) (by omega)
 have hb := bit_half ⟨n - 1, by omega⟩ (by show 1 ≤ n - 1; omega)
 have e1 : n - 1 + 1 = n := by omega
 have e2 : ((n : Int) - 1).toNat = n - 1 := by omega
 have hm : ((n : Int) - 1) % 18446744073709551616 = (n : Int) - 1 := by omega
 simp only [e1] at hb
 rw [e2] at HL0
 obtain ⟨b, HB⟩ : ∃ b, Hid (Lib.bitLen (n - 1) = b) := ⟨_, rfl⟩
 obtain ⟨z, HZ⟩ : ∃ z, Hid (half n = z) := ⟨_, rfl⟩
 rw [HB.out] at HL0 hb
 rw [HZ.out] at hb ⊢
 have HL : Hid (Calls Tryd.prog 97 #[.int .u64 ((n : Int) - 1)] w fun e w' => e = .returned (.int .i64 b) ∧ w = w') := HL0
 clear HL0 e1 e2 HB HZ
 rcases hb with ⟨rfl, rfl⟩ | ⟨rfl, rfl⟩ | ⟨rfl, rfl⟩ | ⟨rfl, rfl⟩ | ⟨rfl, rfl⟩ | ⟨rfl, rfl⟩
 all_goals
  go_enter Tryd.func71, Tryd.ntmps71
  go_wp2_with fail
  refine HL.out.mono ?_
  rintro e w1 ⟨rfl, rfl⟩
  go_wp2_with fail
  go_ret
  exact ⟨rfl, rfl⟩
theorem half_step : ∀ k : Fin 6, ∀ n : Fin 65, 2 ≤ n.val → (k.val = 0 ∨ 2 ^ k.val < n.val) → ¬ 2 * 2 ^ k.val < n.val → half n.val = 2 ^ k.val := by decide +kernel
set_option maxRecDepth 100000 in
set_option maxHeartbeats 1000000 in
theorem l09Half_any (n : Nat) (w : World) (h2 : 2 ≤ n) (h64 : n ≤ 64) : Calls Tryd.prog 73 #[.int .i64 n] w fun e w' => e = .returned (.int .i64 (half n)) ∧ w = w' := by
 go_enter Tryd.func73, Tryd.ntmps73
 go_wp2_with fail
 go_loop [3] (fun i => ∃ k : Nat, k ≤ 5 ∧ i = .int .i64 ((2 ^ k : Nat) : Int) ∧ (k = 0 ∨ 2 ^ k < n)) (fun i => n - (intOf i).toNat)
 case atStart => exact ⟨0, by omega, rfl, .inl rfl⟩
 case round =>
  obtain ⟨k, hk, rfl, hlt⟩ := hrel
  have HE : Hid (¬ 2 * 2 ^ k < n → half n = 2 ^ k) := half_step ⟨k, by omega⟩ ⟨n, by omega⟩ h2 hlt
  have HP : Hid (2 ^ (k + 1) = 2 * 2 ^ k) := by show _ = _; rw [Nat.pow_succ]; omega
  have HQ : Hid (2 * 2 ^ k < n → k + 1 ≤ 5) := fun h => by
   by_cases h5 : k = 5
   ·subst h5; simp at h; omega
   ·omega
  have hpos : 1 ≤ 2 ^ k := Nat.one_le_two_pow
  have hpb : 2 ^ k ≤ 32 := Nat.pow_le_pow_right (n := 2) (by decide) hk
  generalize 2 ^ k = p at hlt HE HP HQ hpos hpb
  by_cases hl : 2 * p < n
  ·have hl' : 2 * (p : Int) < (n : Int) := by omega
   go_wp2_with fail
   exact ⟨⟨k + 1, HQ.out hl, Tx.val_eq (by rw [HP.out]; omega), .inr (by rw [HP.out]; exact hl)⟩, by simp [intOf]; omega⟩
  ·have hl' : ¬ 2 * (p : Int) < (n : Int) := by omega
   go_wp2_with fail
   go_ret
   exact ⟨retI (by rw [HE.out hl]), rfl⟩
end Go.Proofs.YtakfniknkejgpaaDoor.Px
