/- Texts put together: Lb, Lb2, Tl. -/
import Derived.Test.YtondmbeccpekiaaGreatDoorH5
import Derived.Test.YtondmbeccpekiaaGreatDoorH7
import Derived.Deep.RegionLaw
import Derived.Deep.CutRange
import Derived.Deep.DeepCutAuto
/- A list's bytes: both ListBytes functions. -/
namespace Go.Proofs.YtondmbeccpekiaaGreatDoor.Lb
open Go.RowKit Go.Proofs.YtondmbeccpekiaaGreatDoor.Sl Go.Proofs.YtondmbeccpekiaaGreatDoor.By Go.Proofs.YtondmbeccpekiaaGreatDoor.Rq Go.Proofs.YtondmbeccpekiaaGreatDoor.Ap Go.Proofs.YtondmbeccpekiaaGreatDoor.Pu Go.Proofs.YtondmbeccpekiaaGreatDoor.Ty Go.Proofs.YtondmbeccpekiaaGreatDoor.Rp Go.Proofs.YtondmbeccpekiaaGreatDoor.Rr

def lenTo (ts : List ByteArray) : Nat → Nat
  | 0 => 1
  | k + 1 => lenTo ts k + (2 + (tnth ts k).size)
def cd (ts : List ByteArray) (k : Nat) : Int := if 20000 < (tnth ts k).size then 1 else 7
end Go.Proofs.YtondmbeccpekiaaGreatDoor.Lb

/- A list's bytes: the specification's ListBytes. -/
namespace Go.Proofs.YtondmbeccpekiaaGreatDoor.Lb
open Go.RowKit Go.Proofs.YtondmbeccpekiaaGreatDoor.Sl Go.Proofs.YtondmbeccpekiaaGreatDoor.By Go.Proofs.YtondmbeccpekiaaGreatDoor.Rq Go.Proofs.YtondmbeccpekiaaGreatDoor.Ap Go.Proofs.YtondmbeccpekiaaGreatDoor.Pu Go.Proofs.YtondmbeccpekiaaGreatDoor.Ty Go.Proofs.YtondmbeccpekiaaGreatDoor.Rp Go.Proofs.YtondmbeccpekiaaGreatDoor.Rr

end Go.Proofs.YtondmbeccpekiaaGreatDoor.Lb

/- A list is taken off the wire. -/
namespace Go.Proofs.YtondmbeccpekiaaGreatDoor.Tl
open Go.RowKit Go.Proofs.YtondmbeccpekiaaGreatDoor.Sl Go.Proofs.YtondmbeccpekiaaGreatDoor.By Go.Proofs.YtondmbeccpekiaaGreatDoor.Ap Go.Proofs.YtondmbeccpekiaaGreatDoor.Rq Go.Proofs.YtondmbeccpekiaaGreatDoor.Rr Go.Proofs.YtondmbeccpekiaaGreatDoor.Ty

def OwnS (w : World) (B : Nat) (v : Value) (ts : List ByteArray) : Prop := w.ownsRow B 9 1 v ts.length (ts.map Value.string)
theorem OwnS.row {w : World} {B : Nat} {v : Value} {ts : List ByteArray} (h : OwnS w B v ts) : RowT w v ts := by
  obtain ⟨hl, h⟩ := h
  rcases h with ⟨rfl, h0⟩ | ⟨g, cap, cur, rfl, hB, hg, hc, _, hs, htk⟩
  · exact ⟨none, 0, by rw [h0], .inl (List.length_eq_zero_iff.1 h0)⟩
  · refine ⟨_, cap, rfl, .inr ⟨g, 0, rfl, hc, (Array.getElem?_eq_some_iff.1 hg).1, fun i hi => ?_⟩⟩
    rw [Nat.zero_add, Joins.cell_of_block hg i]
    have h1 : (cur.toList.take (ts.length * 1))[i]? = some (.string (tnth ts i)) := by
      rw [htk, List.getElem?_map, List.getElem?_eq_getElem hi]
      simp [tnth, List.getD_eq_getElem?_getD, List.getElem?_eq_getElem hi]
    rw [List.getElem?_take] at h1
    split at h1
    · simpa using h1
    · cases h1
theorem OwnS.kept {w w' : World} {B p : Nat} {v : Value} {ts : List ByteArray} (h : OwnS w B v ts) (hg : w.grownBy w' (some p)) (hp : p < B) : OwnS w' B v ts := by
  obtain ⟨hl, h⟩ := h
  refine ⟨hl, ?_⟩
  rcases h with h | ⟨g, cap, cur, hv, hB, hgb, h⟩
  · exact .inl h
  · exact .inr ⟨g, cap, cur, hv, hB, blk_kept hgb hg (by omega), h⟩
theorem list_text {P : Program} {ops : Array Oper} {rest : List Oper} {o : Oper} {a : Act} {Q : Exit → Act → World → Prop} (hgd : o.guard = none) (s x : Operand) (t : TypeId)
    (ho : o.op = .call { callee := .builtin .append, args := #[s, x], argTypes := #[t, t] }) (i : TypeInfo) (ht : P.underlying t = some (.slice 9)) (hi : P.info? 9 = some i) (hz : i.zero = some (.string ⟨#[]⟩))
    (hsize : i.size = 1) (hby : i.bytes = 16) (B p : Nat) (w0 W : World) (v : Value) (ts : List ByteArray) (z : ByteArray) (hs : a.eval s = v) (hown : OwnS W B v ts) (hg0 : w0.grownBy W (some p)) (hB : w0.heap.size = B)
    (hx : a.eval x = .slice (some ⟨W.heap.size, 0, none⟩) 1 1) (hlen : ts.length ≤ 1000000)
    (h : ∀ v' w', OwnS w' B v' (ts ++ [z]) → w0.grownBy w' (some p) → (∀ k, k < B → w'.heap[k]? = W.heap[k]?) → wpList P ops Q rest (a.put o.dst v') w') : wpList P ops Q (o :: rest) a (W.alloc (.cells #[.string z] 9)) := by
  refine wpList_append_own _ hgd s x t ho B 9 i (.string ⟨#[]⟩) 1 16 ht hi hz hsize hby rfl (by decide) v ts.length _ hs (hown.alloc _) ⟨W.heap.size, 0, none⟩ 1 1 [.string z] hx rfl ?_ ?_ ?_ ?_ ?_ ?_
  · exact World.news_of_block (cs := #[.string z]) (t := 9) (fr := (0, 0)) (heap_alloc_new W _)
  · simp [Value.oneCell']
  · unfold maxLen; omega
  · omega
  · have := hg0.size; simp; omega
  · intro v' w' h1 h2 _
    have hk : ∀ k, k < B → w'.heap[k]? = W.heap[k]? := fun k hk => by
      have hs0 := hg0.size
      refine (h2.block k (by simp; omega) ?_).trans (Below.heap_alloc W _ k (by omega))
      intro e1
      have := (hown.lt k e1.symm).1
      omega
    have hs2 := h2.size
    refine h v' w' (by unfold OwnS; simpa using h1) ⟨h2.os.trans hg0.os, h2.tape.trans hg0.tape, h2.output.trans hg0.output, by have := hg0.size; simp at hs2; omega, fun k hk1 hn => (hk k (by omega)).trans (hg0.block k hk1 hn)⟩ hk

def lR (xs : List Int) : Nat → List Int
  | 0 => xs
  | k + 1 => txtR 2 (lR xs k)
def lS (xs : List Int) (sh : Bool) : Nat → Bool
  | 0 => sh
  | k + 1 => txtS 2 (lR xs k) (lS xs sh k)
def lT (xs : List Int) : Nat → List ByteArray
  | 0 => []
  | k + 1 => lT xs k ++ [txtB 2 (lR xs k)]
theorem lT_length (xs : List Int) : ∀ k, (lT xs k).length = k
  | 0 => rfl
  | k + 1 => by unfold lT; rw [List.length_append, lT_length xs k]; rfl
theorem lR_len (xs : List Int) : ∀ k, (lR xs k).length ≤ xs.length
  | 0 => Nat.le_refl _
  | k + 1 => Nat.le_trans (txtR_len _ _) (lR_len xs k)
theorem lR_range {xs : List Int} (h : ∀ x ∈ xs, 0 ≤ x ∧ x ≤ 255) : ∀ k, ∀ x ∈ lR xs k, 0 ≤ x ∧ x ≤ 255
  | 0 => h
  | k + 1 => txtR_range (lR_range h k)

def okT (ts : List ByteArray) : Bool := ts.all (fun t => decide (t.size ≤ 20000)) && decide (ts.length ≤ 100)
theorem okT_bad {ts : List ByteArray} {k : Nat} (hk : k < ts.length) (h : 20000 < (tnth ts k).size) : okT ts = false := by
  unfold okT
  rw [Bool.and_eq_false_iff]
  left
  rw [List.all_eq_false]
  refine ⟨tnth ts k, ?_, by simpa using h⟩
  unfold tnth; rw [List.getD_eq_getElem?_getD, List.getElem?_eq_getElem hk]; exact List.getElem_mem hk
theorem okT_good {ts : List ByteArray} (h : ∀ j, j < ts.length → (tnth ts j).size ≤ 20000) : okT ts = decide (ts.length ≤ 100) := by
  unfold okT
  rw [List.all_eq_true.2 ?_, Bool.true_and]
  intro t ht
  obtain ⟨j, hj, rfl⟩ := List.getElem_of_mem ht
  have := h j hj
  unfold tnth at this
  rw [List.getD_eq_getElem?_getD, List.getElem?_eq_getElem hj] at this
  simpa using this

set_option maxHeartbeats 800000 in
theorem listOK_any (v : Value) (ts : List ByteArray) (w : World) (h : RowT w v ts) (hl : ts.length ≤ 1048576) (hs : ∀ i, i < ts.length → (tnth ts i).size ≤ 1048576) :
    Calls Tryz.prog 185 #[v] w fun e w' => e = .returned (.bool (okT ts)) ∧ w' = w := by
  obtain ⟨a, cap, rfl, h⟩ := h
  have HS : Hid (∀ i, i < ts.length → (tnth ts i).size ≤ 1048576) := hs
  clear hs
  go_enter Tryz.func185, Tryz.ntmps185
  go_wp2_with fail
  go_loop [4, 7] (fun _ i => ∃ k : Nat, k ≤ ts.length ∧ i = .int .i64 k ∧ Hid (∀ j, j < k → (tnth ts j).size ≤ 20000)) (fun _ i => ts.length - (intOf i).toNat)
  case atStart => exact ⟨0, by omega, rfl, fun j hj => absurd hj (by omega)⟩
  case round =>
    obtain ⟨k, hk, rfl, HB⟩ := hrel
    by_cases hlt : k < ts.length
    · rcases h with h | ⟨b, off, rfl, hc, hb, hcell⟩
      · exact absurd hlt (by rw [h]; simp)
      have hc1 := hcell k hlt
      have hsz := HS.out k hlt
      clear hcell
      by_cases hbig : 20000 < (tnth ts k).size
      · have hbig' : (20000 : Int) < ((tnth ts k).size : Int) := by omega
        have HO : Hid (okT ts = false) := okT_bad hlt hbig
        go_wp2
        go_ret
        exact ⟨by rw [HO.out]; rfl, rfl⟩
      · have hbig' : ((tnth ts k).size : Int) ≤ 20000 := by omega
        have HG : Hid ((tnth ts k).size ≤ 20000) := by show _ ≤ _; omega
        go_wp2
        exact ⟨⟨k + 1, by omega, by go_num, fun j hj => by by_cases e : j < k; exact HB.out j e; (obtain rfl : j = k := by omega); exact HG.out⟩, by simp [intOf]; omega⟩
    · obtain rfl : k = ts.length := by omega
      have HO : Hid (okT ts = decide (ts.length ≤ 100)) := okT_good HB.out
      by_cases h2 : ts.length ≤ 100
      · have h2' : (ts.length : Int) ≤ 100 := by omega
        have HO2 : Hid (okT ts = true) := by show _ = _; rw [HO.out]; simpa using h2
        go_wp2
        go_ret
        exact ⟨by rw [HO2.out]; rfl, rfl⟩
      · have h2' : ¬ (ts.length : Int) ≤ 100 := by omega
        have HO2 : Hid (okT ts = false) := by show _ = _; rw [HO.out]; simpa using h2
        go_wp2
        go_ret
        exact ⟨by rw [HO2.out]; rfl, rfl⟩

def tlN (xs : List Int) : Nat := (beN (tkB 1 xs)).toNat
theorem tlN_le (xs : List Int) (hr : ∀ x ∈ xs, 0 ≤ x ∧ x ≤ 255) : tlN xs ≤ 65535 ∧ beN (tkB 1 xs) = (tlN xs : Int) := txtN_le 1 xs (by decide) hr
set_option maxHeartbeats 1600000 in
theorem takeList_any (p B : Nat) (xs : List Int) (sh : Bool) (w : World) (h : Rdr B w p xs sh) (hB : B ≤ p) (hx : xs.length ≤ 70000) (hr : ∀ x ∈ xs, 0 ≤ x ∧ x ≤ 255) :
    Calls Tryz.prog 184 #[.pointer (some ⟨p, 0, none⟩)] w fun e w' => ∃ v', e = .returned v' ∧ OwnS w' w.heap.size v' (lT (tkR 1 xs) (tlN xs)) ∧ Rdr B w' p (lR (tkR 1 xs) (tlN xs)) (lS (tkR 1 xs) (tkS 1 xs sh) (tlN xs)) ∧ w.grownBy w' (some p) := by
  have hp := h.lt
  obtain ⟨t1, t2⟩ := tlN_le xs hr
  have T2 : Hid (beN (tkB 1 xs) = (tlN xs : Int)) := t2
  clear t2
  obtain ⟨i0, hi, hz0, hz1, hz2⟩ := info_parts info9
  go_enter Tryz.func184, Tryz.ntmps184
  go_wp2_with fail
  refine (number_any 1 p B xs sh _ h hB (by omega) hx hr).mono ?_
  rintro e w1 ⟨rfl, r1, g1⟩
  rw [T2.out]
  have HR1 : Hid (∀ x ∈ tkR 1 xs, 0 ≤ x ∧ x ≤ 255) := tkR_range hr
  have HX1 : Hid ((tkR 1 xs).length ≤ 70000) := Nat.le_trans (tkR_len _ _) hx
  obtain ⟨ys, HY⟩ : ∃ ys, Hid (tkR 1 xs = ys) := ⟨_, rfl⟩
  obtain ⟨s1, HS1⟩ : ∃ s1, Hid (tkS 1 xs sh = s1) := ⟨_, rfl⟩
  obtain ⟨n, HN⟩ : ∃ n, Hid (tlN xs = n) := ⟨_, rfl⟩
  rw [HY.out, HS1.out] at r1
  rw [HY.out] at HR1 HX1
  rw [HN.out] at t1 ⊢
  have R1 : Hid (Rdr B w1 p ys s1) := r1
  have G1 : Hid (w.grownBy w1 (some p)) := g1
  clear r1 g1 h hx hr T2
  go_wp2_with fail
  go_loopw [3, 6] (fun v i wr => ∃ k : Nat, k ≤ n ∧ i = .int .i64 k ∧ OwnS wr w.heap.size v (lT ys k) ∧ Rdr B wr p (lR ys k) (lS ys s1 k) ∧ w.grownBy wr (some p)) (fun _ i _ => n - (intOf i).toNat)
  case atStart => exact ⟨0, by omega, rfl, World.ownsRow_nil _ _ _ _, R1.out, G1.out⟩
  case round =>
    clear R1 G1
    obtain ⟨k, hk, rfl, ho, hrd, hg⟩ := hrel
    by_cases hlt : k < n
    · have hlt' : (k : Int) < (n : Int) := by omega
      have HO : Hid (OwnS wr w.heap.size u3 (lT ys k)) := ho
      have HRd : Hid (Rdr B wr p (lR ys k) (lS ys s1 k)) := hrd
      have HG : Hid (w.grownBy wr (some p)) := hg
      clear ho hrd hg
      go_wp2_with fail
      refine (text_any 2 p B _ _ _ HRd.out hB (by decide) (Nat.le_trans (lR_len ys k) HX1.out) (lR_range HR1.out k)).mono ?_
      rintro e w2 ⟨rfl, r2, g2⟩
      have o2 : OwnS w2 w.heap.size u3 (lT ys k) := HO.out.kept g2 hp
      have gg := grown_trans HG.out g2
      have hln : (lT ys k).length ≤ 1000000 := by rw [lT_length]; omega
      have R2 : Hid (Rdr B w2 p (txtR 2 (lR ys k)) (txtS 2 (lR ys k) (lS ys s1 k))) := r2
      clear HO HRd HG r2 g2
      go_wp2_with (at_builtin; go_must (refine list_text (by rfl) _ _ 38 (by rfl) i0 Tryz.underlying38 hi hz0 hz1 hz2 w.heap.size p w w2 _ _ _ (by rfl) o2 gg rfl (by rfl) hln ?_; intro v3 w3 o3 g3 k3))
      have R3 := R2.out.kept (k3 p hp) (fun k hk => k3 k (by omega))
      exact ⟨⟨k + 1, by omega, by go_num, o3, R3, g3⟩, by simp [intOf]; omega⟩
    · obtain rfl : k = n := by omega
      go_wp2
      go_ret
      rw [HY.out, HS1.out, HN.out]
      exact ⟨_, rfl, ho, hrd, hg⟩
end Go.Proofs.YtondmbeccpekiaaGreatDoor.Tl
