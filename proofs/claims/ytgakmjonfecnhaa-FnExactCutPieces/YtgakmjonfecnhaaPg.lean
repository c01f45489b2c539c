/- Bytes cut into pieces: impl.partsOf, CutPieces, the specification's l09Cut and CutPieces. -/
import Derived.Test.YtgakmjonfecnhaaPf
import Derived.Test.YtgakmjonfecnhaaTk
namespace Go.Proofs.Ytgakmjonfecnhaa.Pg
open Go.RowKit Go.Proofs.Ytgakmjonfecnhaa.Sl Go.Proofs.Ytgakmjonfecnhaa.By Go.Proofs.Ytgakmjonfecnhaa.Ap Go.Proofs.Ytgakmjonfecnhaa.Tx Go.Proofs.Ytgakmjonfecnhaa.Pf

theorem nth_take {xs : List Int} {n i : Nat} (h : i < n) : nth (xs.take n) i = nth xs i := by
  unfold nth; rw [List.getD_eq_getElem?_getD, List.getD_eq_getElem?_getD, List.getElem?_take, if_pos h]
theorem nth_drop (xs : List Int) (n i : Nat) : nth (xs.drop n) i = nth xs (n + i) := by
  unfold nth; rw [List.getD_eq_getElem?_getD, List.getD_eq_getElem?_getD, List.getElem?_drop]
theorem rowB_take {w : World} {a : Option Addr} {cap n : Nat} {xs : List Int} (h : RowB w (.slice a xs.length cap) xs) (hn : n ≤ xs.length) : RowB w (.slice a n cap) (xs.take n) := by
  obtain ⟨a', cap', e, h, hr⟩ := h
  simp only [Value.slice.injEq, true_and] at e
  obtain ⟨rfl, rfl⟩ := e
  have hl : (xs.take n).length = n := by rw [List.length_take]; omega
  refine ⟨a, cap, by rw [hl], ?_, fun x hx => hr x (List.mem_of_mem_take hx)⟩
  rcases h with rfl | ⟨b, off, rfl, hc, hlt, h⟩
  · exact .inl (by simp)
  · refine .inr ⟨b, off, rfl, by rw [hl]; omega, hlt, fun i hi => ?_⟩
    rw [hl] at hi
    rw [nth_take hi]
    exact h i (by omega)
theorem rowB_drop {w : World} {a : Option Addr} {cap n : Nat} {xs : List Int} (h : RowB w (.slice a xs.length cap) xs) (hn : n ≤ xs.length) : RowB w (.slice (if cap = n then a else a.map (·.add n)) (xs.length - n) (cap - n)) (xs.drop n) := by
  obtain ⟨a', cap', e, h, hr⟩ := h
  simp only [Value.slice.injEq, true_and] at e
  obtain ⟨rfl, rfl⟩ := e
  refine ⟨_, cap - n, by rw [List.length_drop], ?_, fun x hx => hr x (List.mem_of_mem_drop hx)⟩
  by_cases he : xs.length = n
  · exact .inl (List.drop_eq_nil_of_le (by omega))
  · rcases h with rfl | ⟨b, off, rfl, hc, hlt, h⟩
    · exact .inl (by simp)
    · rw [if_neg (by omega)]
      refine .inr ⟨b, off + n, by simp [addr_add], by rw [List.length_drop]; omega, hlt, fun i hi => ?_⟩
      rw [List.length_drop] at hi
      rw [nth_drop, Nat.add_assoc]
      exact h (n + i) (by omega)
theorem run_conv_row {P : Program} (w : World) (src e dst : TypeId) (hs : P.underlying src = some (.slice e)) (he : P.underlying e = some (.int .u8)) (hd : P.underlying dst = some .string)
    (v : Value) (zs : List Int) (h : RowB w v zs) (hne : zs ≠ []) : (convert src dst v).run P w = .ok (.string (strOfNums zs)) w := by
  obtain ⟨a, cap, rfl, h, _⟩ := h
  rcases h with rfl | ⟨b, off, rfl, hc, hb, h⟩
  · exact absurd rfl hne
  · refine run_convert_bytes_arg w src e hs he b off zs.length cap zs rfl (fun i hi => ?_) dst hd
    exact h i hi

/-- The bytes of the k-th piece. -/
def pcn (xs : List Int) (k : Nat) : List Int := (xs.drop (32 * k)).take 32
def cutTo (xs : List Int) : Nat → List ByteArray
  | 0 => []
  | k + 1 => cutTo xs k ++ [strOfNums (pcn xs k)]
theorem cutTo_length (xs : List Int) : ∀ k, (cutTo xs k).length = k
  | 0 => rfl
  | k + 1 => by unfold cutTo; rw [List.length_append, cutTo_length xs k]; rfl
def cutN (xs : List Int) : Nat := (xs.length + 31) / 32
def cutC (xs : List Int) : Int := if 65536 < xs.length then 2 else if 2048 < xs.length then 7 else 0
def cutL (xs : List Int) : List ByteArray := if cutC xs = 0 then cutTo xs (cutN xs) else []
theorem cutL_small (xs : List Int) : (cutL xs).length ≤ 64 := by
  unfold cutL
  split
  · rename_i h
    rw [cutTo_length]
    unfold cutC at h
    unfold cutN
    split at h
    · cases h
    · split at h
      · cases h
      · omega
  · simp
theorem cut_long {xs : List Int} (h : 65536 < xs.length) : cutC xs = 2 ∧ cutL xs = [] := by
  have e : cutC xs = 2 := if_pos h
  exact ⟨e, by unfold cutL; rw [e]; rfl⟩
theorem cut_full {xs : List Int} (h0 : ¬ 65536 < xs.length) (h : 2048 < xs.length) : cutC xs = 7 ∧ cutL xs = [] := by
  have e : cutC xs = 7 := by unfold cutC; rw [if_neg h0, if_pos h]
  exact ⟨e, by unfold cutL; rw [e]; rfl⟩
theorem cut_ok {xs : List Int} (h : ¬ 2048 < xs.length) : cutC xs = 0 ∧ cutL xs = cutTo xs (cutN xs) := by
  have e : cutC xs = 0 := by unfold cutC; rw [if_neg (by omega), if_neg h]
  exact ⟨e, by unfold cutL; rw [e]; rfl⟩

/-- Slices of bytes in a slice of the call's own. -/
def OwnP (w : World) (B : Nat) (v : Value) (vs : List Value) : Prop := w.ownsRow B 22 1 v vs.length vs
theorem OwnP.cell {w : World} {B : Nat} {v : Value} {vs : List Value} (h : OwnP w B v vs) {j : Nat} {u : Value} (hj : vs[j]? = some u) : ∃ g cap, v = .slice (some ⟨g, 0, none⟩) vs.length cap ∧ vs.length ≤ cap ∧ g < w.heap.size ∧ w.cell? ⟨g, j, none⟩ = some u := by
  have hlt : j < vs.length := (List.getElem?_eq_some_iff.1 hj).1
  obtain ⟨hl, h⟩ := h
  rcases h with ⟨rfl, h0⟩ | ⟨g, cap, cur, rfl, hB, hg, hc, _, hs, htk⟩
  · omega
  · refine ⟨g, cap, rfl, hc, (Array.getElem?_eq_some_iff.1 hg).1, ?_⟩
    rw [Joins.cell_of_block hg j]
    have h1 : (cur.toList.take (vs.length * 1))[j]? = some u := by rw [htk]; exact hj
    rw [List.getElem?_take] at h1
    split at h1
    · simpa using h1
    · cases h1
theorem OwnP.form {w : World} {B : Nat} {v : Value} {vs : List Value} (h : OwnP w B v vs) : ∃ a cap, v = .slice a vs.length cap := by
  obtain ⟨hl, h⟩ := h
  rcases h with ⟨rfl, h0⟩ | ⟨g, cap, cur, rfl, _⟩
  · exact ⟨none, 0, by rw [h0]⟩
  · exact ⟨_, _, rfl⟩
theorem infoP : (Try.prog.info? 22).map (fun i => (i.zero, i.size, i.bytes)) = some (some (.slice none 0 0), 1, 24) := by kernel_rfl
/-- 'append(parts, part)' in a plain region. -/
theorem list_part {P : Program} {ops : Array Oper} {rest : List Oper} {o : Oper} {a : Act} {Q : Exit → Act → World → Prop} (hgd : o.guard = none) (s x : Operand) (t : TypeId)
    (ho : o.op = .call { callee := .builtin .append, args := #[s, x], argTypes := #[t, t] }) (i : TypeInfo) (ht : P.underlying t = some (.slice 22)) (hi : P.info? 22 = some i) (hz : i.zero = some (.slice none 0 0))
    (hsize : i.size = 1) (hby : i.bytes = 24) (B : Nat) (w0 W : World) (v : Value) (vs : List Value) (ad : Option Addr) (n c : Nat) (hs : a.eval s = v) (hown : OwnP W B v vs) (hg0 : Below B w0 W) (hB : B ≤ W.heap.size)
    (hx : a.eval x = .slice (some ⟨W.heap.size, 0, none⟩) 1 1) (hlen : vs.length ≤ 1000000)
    (h : ∀ v' w', OwnP w' B v' (vs ++ [.slice ad n c]) → Below B w0 w' → W.heap.size ≤ w'.heap.size → wpList P ops Q rest (a.put o.dst v') w') : wpList P ops Q (o :: rest) a (W.alloc (.cells #[.slice ad n c] 22)) := by
  refine wpList_append_own _ hgd s x t ho B 22 i (.slice none 0 0) 1 24 ht hi hz hsize hby rfl (by decide) v vs.length _ hs (hown.alloc _) ⟨W.heap.size, 0, none⟩ 1 1 [.slice ad n c] hx (by simp) ?_ ?_ ?_ ?_ ?_ ?_
  · have := World.news_of_block (cs := #[.slice ad n c]) (t := 22) (fr := (0, 0)) (heap_alloc_new W _)
    simpa using this
  · intro z hz
    rw [List.mem_singleton.1 hz]
    rfl
  · unfold maxLen; omega
  · omega
  · simp; omega
  · intro v' w' h1 h2 _
    have hs2 := h2.size
    simp at hs2
    refine h v' w' (by unfold OwnP; simpa using h1) ?_ (by omega)
    exact (hg0.alloc hB _).grown h2 (by simp; omega) (fun k hk => (World.ownsRow.lt hown k hk).1)

def slen : Value → Nat
  | .slice _ n _ => n
  | _ => 0
set_option maxRecDepth 100000 in
set_option maxHeartbeats 1600000 in
theorem partsOf_any (v : Value) (xs : List Int) (w : World) (h : RowB w v xs) (hl : xs.length ≤ 2048) :
    Calls Try.prog 19 #[v] w fun e w' => ∃ u, e = .returned u ∧ (∃ vs, vs.length = cutN xs ∧ OwnP w' w.heap.size u vs ∧ ∀ j, j < cutN xs → ∃ x, vs[j]? = some x ∧ RowB w x (pcn xs j)) ∧ Below w.heap.size w w' := by
  obtain ⟨i0, hi0, hz0, hz1, hz2⟩ := info_parts infoP
  have HR : Hid (RowB w v xs) := h
  have HL : Hid (∀ _ : Unit, xs.length ≤ 2048) := fun _ => hl
  obtain ⟨a, cap, rfl, _⟩ := h
  clear hl
  go_enter Try.func19, Try.ntmps19
  go_wp2_with fail
  go_loopw [0, 3] (fun b p wr => ∃ (k : Nat) (vs : List Value), k ≤ cutN xs ∧ vs.length = k ∧ RowB w b (xs.drop (32 * k)) ∧ OwnP wr w.heap.size p vs ∧ Hid (∀ j, j < k → ∃ x, vs[j]? = some x ∧ RowB w x (pcn xs j)) ∧ Below w.heap.size w wr) (fun b _ _ => slen b)
  case atStart => exact ⟨0, [], by omega, rfl, HR.out, World.ownsRow_nil _ _ _ _, fun j hj => absurd hj (by omega), Below.refl _ _⟩
  case round =>
    clear HR
    obtain ⟨k, vs, hk, HV, hb, ho, HI, hg⟩ := hrel
    obtain ⟨a', cap', rfl, hb2⟩ := id hb
    have hlen : (xs.drop (32 * k)).length = xs.length - 32 * k := List.length_drop
    rw [hlen] at hb ⊢
    have HV' : Hid (vs.length = k) := HV
    have hvl : vs.length ≤ 1000000 := by have := HL.out (); unfold cutN at hk; omega
    have HD : Hid ((xs.drop (32 * k)).length = xs.length - 32 * k) := hlen
    have hB : w.heap.size ≤ wr.heap.size := hg.size
    by_cases h0 : xs.length - 32 * k = 0
    · have HK : Hid (k = cutN xs) := by show _ = _; unfold cutN at hk ⊢; omega
      have HO : Hid (OwnP wr w.heap.size u3 vs) := ho
      rw [h0]
      clear hb hb2 HV hlen ho h0
      go_wp2_with fail
      go_ret
      exact ⟨_, rfl, ⟨vs, by rw [HV'.out, HK.out], HO.out, by rw [← HK.out]; exact HI.out⟩, hg⟩
    · have hcap : xs.length - 32 * k ≤ cap' := by
        rcases hb2.1 with hn | ⟨_, _, _, hc, _⟩
        · rw [hn] at hlen; simp at hlen; omega
        · omega
      have hK : k + 1 ≤ cutN xs := by unfold cutN at hk ⊢; omega
      have HBR : Hid (RowB w (.slice a' (xs.drop (32 * k)).length cap') (xs.drop (32 * k))) := by show RowB _ _ _; rw [hlen]; exact hb
      have HO : Hid (OwnP wr w.heap.size u3 vs) := ho
      obtain ⟨n, HN⟩ : ∃ n, Hid (xs.length - 32 * k = n) := ⟨_, rfl⟩
      rw [HN.out] at h0 hcap HD ⊢
      clear hb hb2 HV hlen ho
      have hn0 : (0 : Int) < (n : Int) := by omega
      by_cases h32 : 32 < n
      · have h32' : (32 : Int) < (n : Int) := by omega
        have HP : Hid (RowB w (.slice a' 32 cap') (pcn xs k)) := rowB_take HBR.out (by rw [HD.out]; omega)
        have HQ : Hid (RowB w (.slice (a'.map (·.add 32)) (n - 32) (cap' - 32)) (xs.drop (32 * (k + 1)))) := by
          have := rowB_drop HBR.out (show 32 ≤ (xs.drop (32 * k)).length by rw [HD.out]; omega)
          rw [HD.out, List.drop_drop, if_neg (by omega)] at this
          rw [show 32 * (k + 1) = 32 * k + 32 by omega]
          exact this
        have HJ : Hid (∀ j, j < k + 1 → ∃ x, (vs ++ [Value.slice a' 32 cap'])[j]? = some x ∧ RowB w x (pcn xs j)) := fun j hj => by
          by_cases e : j < k
          · obtain ⟨x, h1, h2⟩ := HI.out j e
            exact ⟨x, by rw [List.getElem?_append_left (by rw [HV'.out]; exact e)]; exact h1, h2⟩
          · obtain rfl : j = k := by omega
            exact ⟨_, by rw [List.getElem?_append_right (by rw [HV'.out]; exact Nat.le_refl _), HV'.out, Nat.sub_self]; rfl, HP.out⟩
        have hc32 : ¬ cap' = 32 := by omega
        go_wp2_with (at_builtin; go_must (refine list_part (by rfl) _ _ 37 (by rfl) i0 Try.underlying37 hi0 hz0 hz1 hz2 w.heap.size w wr _ vs _ _ _ (by rfl) HO.out hg hB (by rfl) hvl ?_; intro v3 w3 o3 b3 s3))
        exact ⟨⟨k + 1, _, hK, by rw [List.length_append, HV'.out]; rfl, HQ.out, o3, HJ, b3⟩, by simp [slen]; omega⟩
      · have h32' : ¬ (32 : Int) < (n : Int) := by omega
        have hm : (if (n : Int) < 32 then (n : Int) else 32) = (n : Int) := by split <;> omega
        have HP : Hid (RowB w (.slice a' n cap') (pcn xs k)) := by
          have := rowB_take HBR.out (show n ≤ (xs.drop (32 * k)).length by rw [HD.out]; omega)
          unfold pcn
          rw [List.take_of_length_le (by rw [HD.out]; omega)]
          rw [List.take_of_length_le (by rw [HD.out]; omega)] at this
          exact this
        have HQ : Hid (∀ b c, RowB w (.slice b 0 c) (xs.drop (32 * (k + 1)))) := fun b c => by
          have e : xs.drop (32 * (k + 1)) = [] := List.drop_eq_nil_of_le (by have := HN.out; omega)
          rw [e]
          exact ⟨b, c, rfl, .inl rfl, fun x hx => by cases hx⟩
        have HJ : Hid (∀ j, j < k + 1 → ∃ x, (vs ++ [Value.slice a' n cap'])[j]? = some x ∧ RowB w x (pcn xs j)) := fun j hj => by
          by_cases e : j < k
          · obtain ⟨x, h1, h2⟩ := HI.out j e
            exact ⟨x, by rw [List.getElem?_append_left (by rw [HV'.out]; exact e)]; exact h1, h2⟩
          · obtain rfl : j = k := by omega
            exact ⟨_, by rw [List.getElem?_append_right (by rw [HV'.out]; exact Nat.le_refl _), HV'.out, Nat.sub_self]; rfl, HP.out⟩
        by_cases hcn : cap' = n
        · subst hcn
          go_wp2_with (at_builtin; go_must (refine list_part (by rfl) _ _ 37 (by rfl) i0 Try.underlying37 hi0 hz0 hz1 hz2 w.heap.size w wr _ vs _ _ _ (by rfl) HO.out hg hB (by rfl) hvl ?_; intro v3 w3 o3 b3 s3))
          exact ⟨⟨k + 1, _, hK, by rw [List.length_append, HV'.out]; rfl, by first | exact HQ.out _ _ | (simp; exact HQ.out _ _), o3, HJ, b3⟩, by simp [slen]; omega⟩
        · go_wp2_with (at_builtin; go_must (refine list_part (by rfl) _ _ 37 (by rfl) i0 Try.underlying37 hi0 hz0 hz1 hz2 w.heap.size w wr _ vs _ _ _ (by rfl) HO.out hg hB (by rfl) hvl ?_; intro v3 w3 o3 b3 s3))
          exact ⟨⟨k + 1, _, hK, by rw [List.length_append, HV'.out]; rfl, by first | exact HQ.out _ _ | (simp; exact HQ.out _ _), o3, HJ, b3⟩, by simp [slen]; omega⟩
end Go.Proofs.Ytgakmjonfecnhaa.Pg
