/- Texts put together: Sp, Mark, Mkt. -/
import Derived.Test.YtondmbeccpekiaaGreatDoorH32
import Derived.Test.YtondmbeccpekiaaGreatDoorH23
import Derived.Test.YtondmbeccpekiaaGreatDoorH25
import Derived.Test.YtondmbeccpekiaaGreatDoorH0
import Derived.Test.YtondmbeccpekiaaGreatDoorH2
import Derived.Test.YtondmbeccpekiaaGreatDoorH5
/- A list is read: the specification. -/
namespace Go.Proofs.YtondmbeccpekiaaGreatDoor.Rl
open Go.RowKit Go.Proofs.YtondmbeccpekiaaGreatDoor.Sl Go.Proofs.YtondmbeccpekiaaGreatDoor.By Go.Proofs.YtondmbeccpekiaaGreatDoor.Ap Go.Proofs.YtondmbeccpekiaaGreatDoor.Rq Go.Proofs.YtondmbeccpekiaaGreatDoor.Rr Go.Proofs.YtondmbeccpekiaaGreatDoor.Ty Go.Proofs.YtondmbeccpekiaaGreatDoor.Tl Go.Proofs.YtondmbeccpekiaaGreatDoor.Of

theorem lS_true (ys : List Int) (sh : Bool) {k n : Nat} (hk : k ≤ n) (h : lS ys sh k = true) : lS ys sh n = true := by
  induction n with
  | zero => obtain rfl : k = 0 := by omega
            exact h
  | succ n ih =>
    by_cases e : k = n + 1
    · subst e; exact h
    · have := ih (by omega)
      unfold lS
      rw [this]
      exact txt_true 2 _
theorem lT_at (ys : List Int) : ∀ (n j : Nat), j < n → tnth (lT ys n) j = txtB 2 (lR ys j)
  | 0, j, h => absurd h (by omega)
  | n + 1, j, h => by
    unfold tnth
    rw [List.getD_eq_getElem?_getD]
    unfold lT
    by_cases e : j < n
    · rw [List.getElem?_append_left (by rw [lT_length]; exact e)]
      have := lT_at ys n j e
      unfold tnth at this
      rw [List.getD_eq_getElem?_getD] at this
      exact this
    · obtain rfl : j = n := by omega
      rw [List.getElem?_append_right (by rw [lT_length]; exact Nat.le_refl _), lT_length, Nat.sub_self]
      rfl
def rdOk (xs : List Int) : Bool := !lS (tkR 1 xs) (tkS 1 xs false) (tlN xs) && ((lR (tkR 1 xs) (tlN xs)).isEmpty && okT (lT (tkR 1 xs) (tlN xs)))
def rdOut (xs : List Int) : List ByteArray := if rdOk xs = true then lT (tkR 1 xs) (tlN xs) else []
theorem ok_many (xs : List Int) (h : 100 < tlN xs) : rdOk xs = false := by
  unfold rdOk okT
  rw [lT_length, decide_eq_false (by omega)]
  simp
theorem ok_short (xs : List Int) {k : Nat} (hk : k ≤ tlN xs) (h : lS (tkR 1 xs) (tkS 1 xs false) k = true) : rdOk xs = false := by
  unfold rdOk
  rw [lS_true _ _ hk h]
  rfl
theorem ok_large (xs : List Int) {k : Nat} (hk : k < tlN xs) (h : 20000 < (txtB 2 (lR (tkR 1 xs) k)).size) : rdOk xs = false := by
  unfold rdOk
  rw [okT_bad (k := k) (by rw [lT_length]; exact hk) (by rw [lT_at _ _ _ hk]; exact h)]
  simp
theorem ok_left (xs : List Int) (h : (lR (tkR 1 xs) (tlN xs)).isEmpty = false) : rdOk xs = false := by
  unfold rdOk
  rw [h]
  simp
theorem ok_good (xs : List Int) (h1 : lS (tkR 1 xs) (tkS 1 xs false) (tlN xs) = false) (h2 : lR (tkR 1 xs) (tlN xs) = []) (h3 : tlN xs ≤ 100) (h4 : ∀ j, j < tlN xs → (txtB 2 (lR (tkR 1 xs) j)).size ≤ 20000) : rdOk xs = true := by
  unfold rdOk
  rw [h1, h2, okT_good (fun j hj => by rw [lT_length] at hj; rw [lT_at _ _ _ hj]; exact h4 j hj), lT_length, decide_eq_true h3]
  rfl
theorem at_no1 (xs : List Int) (at_ : Nat) (h : xs.length < at_ + 2) (sh : Bool) : txtS 2 (xs.drop at_) sh = true := by
  unfold txtS
  rw [tk_no (n := 2) (xs := xs.drop at_) (by rw [List.length_drop]; omega)]
  rfl
theorem at_num (xs : List Int) (at_ : Nat) (h : at_ + 2 ≤ xs.length) : tkB 2 (xs.drop at_) = (xs.take (at_ + 2)).drop at_ ∧ tkR 2 (xs.drop at_) = xs.drop (at_ + 2) ∧ ∀ sh, tkS 2 (xs.drop at_) sh = sh := by
  obtain ⟨a1, a2, a3⟩ := tk_yes (n := 2) (xs := xs.drop at_) (by rw [List.length_drop]; omega)
  rw [List.drop_drop] at a2
  exact ⟨by rw [a1, List.take_drop], a2, a3⟩
theorem at_no2 (xs : List Int) (at_ : Nat) (h : at_ + 2 ≤ xs.length) (h2 : xs.length < at_ + 2 + txtN 2 (xs.drop at_)) (sh : Bool) : txtS 2 (xs.drop at_) sh = true := by
  obtain ⟨a1, a2, a3⟩ := at_num xs at_ h
  unfold txtS
  rw [a2, tk_no (by rw [List.length_drop]; omega)]
theorem at_yes (xs : List Int) (at_ : Nat) (h : at_ + 2 ≤ xs.length) (h2 : at_ + 2 + txtN 2 (xs.drop at_) ≤ xs.length) :
    txtS 2 (xs.drop at_) false = false ∧ txtR 2 (xs.drop at_) = xs.drop (at_ + 2 + txtN 2 (xs.drop at_)) ∧ txtB 2 (xs.drop at_) = strOfNums ((xs.take (at_ + 2 + txtN 2 (xs.drop at_))).drop (at_ + 2)) ∧ (txtB 2 (xs.drop at_)).size = txtN 2 (xs.drop at_) := by
  obtain ⟨a1, a2, a3⟩ := at_num xs at_ h
  generalize hm : txtN 2 (xs.drop at_) = m at h2 ⊢
  obtain ⟨b1, b2, b3⟩ := tk_yes (n := m) (xs := xs.drop (at_ + 2)) (by rw [List.length_drop]; omega)
  unfold txtS txtR txtB
  rw [hm, a2, a3, b1, b2, b3, List.drop_drop, List.take_drop]
  refine ⟨rfl, rfl, rfl, ?_⟩
  rw [strOfNums_size, List.length_drop, List.length_take]
  omega
theorem own_empty (w : World) (B : Nat) (hB : B ≤ w.heap.size) : OwnS (w.alloc (.cells #[] 9)) B (.slice (some ⟨w.heap.size, 0, none⟩) 0 0) [] :=
  World.ownsRow_made w #[] 0 hB (by decide) (by decide)

theorem list_below {P : Program} {ops : Array Oper} {rest : List Oper} {o : Oper} {a : Act} {Q : Exit → Act → World → Prop} (hgd : o.guard = none) (s x : Operand) (t : TypeId)
    (ho : o.op = .call { callee := .builtin .append, args := #[s, x], argTypes := #[t, t] }) (i : TypeInfo) (ht : P.underlying t = some (.slice 9)) (hi : P.info? 9 = some i) (hz : i.zero = some (.string ⟨#[]⟩))
    (hsize : i.size = 1) (hby : i.bytes = 16) (B : Nat) (w0 W : World) (v : Value) (ts : List ByteArray) (z : ByteArray) (hs : a.eval s = v) (hown : OwnS W B v ts) (hg0 : Below B w0 W) (hB : w0.heap.size = B)
    (hx : a.eval x = .slice (some ⟨W.heap.size, 0, none⟩) 1 1) (hlen : ts.length ≤ 1000000)
    (h : ∀ v' w', OwnS w' B v' (ts ++ [z]) → Below B w0 w' → wpList P ops Q rest (a.put o.dst v') w') : wpList P ops Q (o :: rest) a (W.alloc (.cells #[.string z] 9)) := by
  refine list_text hgd s x t ho i ht hi hz hsize hby B B w0 W v ts z hs hown ⟨hg0.os, hg0.tape, hg0.output, hg0.size, fun k hk _ => hg0.block k (by omega)⟩ hB hx hlen ?_
  intro v' w' h1 h2 _
  exact h v' w' h1 ⟨h2.os, h2.tape, h2.output, h2.size, fun k hk => h2.block k (by omega) (by simp; omega)⟩

set_option maxRecDepth 100000 in
set_option maxHeartbeats 1600000 in
theorem l02ReadList_any (s : ByteArray) (w : World) (hs : s.size ≤ 65536) :
    Calls Tryz.prog 94 #[.string s] w fun e w' => ∃ v', e = .returned (.tuple #[v', .bool (rdOk (bys s))]) ∧ OwnS w' w.heap.size v' (rdOut (bys s)) ∧ Below w.heap.size w w' := by
  by_cases h0 : s.size = 0
  · have e0 : s = ⟨#[]⟩ := ByteArray.ext (Array.eq_empty_of_size_eq_zero h0)
    subst e0
    have HE : Hid (rdOk (bys ⟨#[]⟩) = false ∧ rdOut (bys ⟨#[]⟩) = []) := ⟨rfl, rfl⟩
    clear h0 hs
    go_enter Tryz.func94, Tryz.ntmps94
    go_wp2_with fail
    go_ret2
    rw [HE.out.1, HE.out.2]
    exact ⟨_, rfl, own_empty _ _ (Nat.le_refl _), (Below.refl _ _).alloc (Nat.le_refl _) _⟩
  have hpos : 0 < s.size := by omega
  have hb := (s[0]'hpos).toNat_lt
  have hne : s.toList.isEmpty = false := by
    rw [ByteArray.toList_eq, List.isEmpty_eq_false_iff]
    intro hd
    have h1 : s.data.toList.length = 0 := by rw [hd]; rfl
    rw [Array.length_toList] at h1
    exact absurd hpos (by show ¬ 0 < s.data.size; omega)
  have hl0 : 0 < (bys s).length := by rw [bys_length]; exact hpos
  obtain ⟨a1, a2, a3⟩ := tk_yes (n := 1) (xs := bys s) (by omega)
  have HN : Hid (tlN (bys s) = (s[0]'hpos).toNat) := by
    show _ = _
    unfold tlN
    rw [a1, be1 hl0, bys_at s 0 hpos]
    rfl
  have HY : Hid (tkR 1 (bys s) = (bys s).drop 1 ∧ tkS 1 (bys s) false = false) := ⟨a2, a3 false⟩
  clear a1 a2 a3 hl0 h0
  by_cases hmany : 100 < (s[0]'hpos).toNat
  · have hmany' : (100 : Int) < ((s[0]'hpos).toNat : Int) := by omega
    have HE : Hid (rdOk (bys s) = false) := ok_many _ (by rw [HN.out]; exact hmany)
    have HO : Hid (rdOut (bys s) = []) := by show _ = _; unfold rdOut; rw [HE.out]; rfl
    go_enter Tryz.func94, Tryz.ntmps94
    go_wp2_with fail
    go_ret2
    rw [HE.out, HO.out]
    exact ⟨_, rfl, own_empty _ _ (Nat.le_refl _), (Below.refl _ _).alloc (Nat.le_refl _) _⟩
  have hmany' : ((s[0]'hpos).toNat : Int) ≤ 100 := by omega
  go_enter Tryz.func94, Tryz.ntmps94
  have HA : Hid (nth (bys s) 0 = ((s[0]'hpos).toNat : Int)) := bys_at s 0 hpos
  go_wp2_with fail
  have HB0 : Hid (Below w.heap.size w (w.alloc (.cells #[] 9))) := (Below.refl _ _).alloc (Nat.le_refl _) _
  generalize hnn : (s[0]'hpos).toNat = n at hb hmany hmany' HN HA ⊢
  obtain ⟨i0, hi, hz0, hz1, hz2⟩ := info_parts info9
  go_loopw [4, 5, 6] (fun out at_ i wr => ∃ k p : Nat, k ≤ n ∧ p ≤ s.size ∧ i = .int .i64 ((n : Int) - k) ∧ at_ = .int .i64 p ∧ OwnS wr w.heap.size out (lT ((bys s).drop 1) k) ∧ Below w.heap.size w wr ∧ Hid (lR ((bys s).drop 1) k = (bys s).drop p ∧ lS ((bys s).drop 1) false k = false ∧ ∀ j, j < k → (txtB 2 (lR ((bys s).drop 1) j)).size ≤ 20000)) (fun _ _ i _ => (intOf i).toNat)
  case atStart => exact ⟨0, 1, by omega, by omega, by simp, rfl, own_empty _ _ (Nat.le_refl _), HB0.out, ⟨rfl, rfl, fun j hj => absurd hj (by omega)⟩⟩
  case round =>
    clear HB0
    obtain ⟨k, p, hk, hp, rfl, rfl, ho, hbel, HI⟩ := hrel
    by_cases hlt : k < n
    · have hlt' : (0 : Int) < (n : Int) - k := by omega
      by_cases h2 : s.size < p + 2
      · have h2' : (s.size : Int) < (p : Int) + 2 := by omega
        have HE : Hid (rdOk (bys s) = false) := ok_short _ (k := k + 1) (by rw [HN.out]; omega) (by rw [HY.out.1, HY.out.2]; unfold lS; rw [HI.out.1]; exact at_no1 _ _ (by rw [bys_length]; exact h2) _)
        have HO : Hid (rdOut (bys s) = []) := by show _ = _; unfold rdOut; rw [HE.out]; rfl
        go_wp2_with fail
        go_ret2
        rw [HE.out, HO.out]
        exact ⟨_, rfl, own_empty _ _ hbel.size, hbel.alloc hbel.size _⟩
      have h2' : (p : Int) + 2 ≤ (s.size : Int) := by omega
      have hex : (s.extract p (p + 2)).size ≤ 4 := by rw [ByteArray.size_extract]; omega
      have HM : Hid (beN (bys (s.extract p (p + 2))) = (txtN 2 ((bys s).drop p) : Int) ∧ txtN 2 ((bys s).drop p) ≤ 65535) := by
        have hr : ∀ x ∈ (bys s).drop p, 0 ≤ x ∧ x ≤ 255 := fun x hx => bys_range s x (List.mem_of_mem_drop hx)
        obtain ⟨t1, t2⟩ := txtN_le 2 ((bys s).drop p) (by decide) hr
        refine ⟨?_, t1⟩
        rw [← t2, (at_num (bys s) p (by rw [bys_length]; omega)).1, bys_ext]
      go_wp2_with fail
      refine (l02Of_any (s.extract p (p + 2)) _ hex).mono ?_
      rintro e w2 ⟨rfl, hw⟩
      rw [hw, HM.out.1]
      clear hw hex
      have hm := HM.out.2
      have HMM : Hid (txtN 2 (lR ((bys s).drop 1) k) = txtN 2 ((bys s).drop p)) := by show _ = _; rw [HI.out.1]
      obtain ⟨m, HMe⟩ : ∃ m, Hid (txtN 2 ((bys s).drop p) = m) := ⟨_, rfl⟩
      rw [HMe.out] at hm ⊢
      clear HM
      by_cases h3 : s.size < p + 2 + m
      · have h3' : (s.size : Int) < (p : Int) + 2 + (m : Int) := by omega
        have HE : Hid (rdOk (bys s) = false) := ok_short _ (k := k + 1) (by rw [HN.out]; omega) (by rw [HY.out.1, HY.out.2]; unfold lS; rw [HI.out.1]; exact at_no2 _ _ (by rw [bys_length]; omega) (by rw [bys_length, HMe.out]; omega) _)
        have HO : Hid (rdOut (bys s) = []) := by show _ = _; unfold rdOut; rw [HE.out]; rfl
        by_cases h4 : 20000 < m
        · have h4' : (20000 : Int) < (m : Int) := by omega
          go_wp2_with fail
          go_ret2
          rw [HE.out, HO.out]
          exact ⟨_, rfl, own_empty _ _ hbel.size, hbel.alloc hbel.size _⟩
        · have h4' : (m : Int) ≤ 20000 := by omega
          go_wp2_with fail
          go_ret2
          rw [HE.out, HO.out]
          exact ⟨_, rfl, own_empty _ _ hbel.size, hbel.alloc hbel.size _⟩
      have h3' : (p : Int) + 2 + (m : Int) ≤ (s.size : Int) := by omega
      obtain ⟨y1, y2, y3, y4⟩ := at_yes (bys s) p (by rw [bys_length]; omega) (by rw [bys_length, HMe.out]; omega)
      rw [HMe.out] at y2 y3 y4
      rw [← bys_ext, str_bys] at y3
      have Y1 : Hid (txtS 2 ((bys s).drop p) false = false) := y1
      have Y2 : Hid (txtR 2 ((bys s).drop p) = (bys s).drop (p + 2 + m)) := y2
      have Y3 : Hid (txtB 2 ((bys s).drop p) = s.extract (p + 2) (p + 2 + m)) := y3
      have Y4 : Hid ((txtB 2 ((bys s).drop p)).size = m) := y4
      clear y1 y2 y3 y4
      by_cases h4 : 20000 < m
      · have h4' : (20000 : Int) < (m : Int) := by omega
        have HE : Hid (rdOk (bys s) = false) := ok_large _ (k := k) (by rw [HN.out]; omega) (by rw [HY.out.1, HI.out.1, Y4.out]; exact h4)
        have HO : Hid (rdOut (bys s) = []) := by show _ = _; unfold rdOut; rw [HE.out]; rfl
        go_wp2_with fail
        go_ret2
        rw [HE.out, HO.out]
        exact ⟨_, rfl, own_empty _ _ hbel.size, hbel.alloc hbel.size _⟩
      have h4' : (m : Int) ≤ 20000 := by omega
      have hln : (lT ((bys s).drop 1) k).length ≤ 1000000 := by rw [lT_length]; omega
      have HO : Hid (OwnS wr w.heap.size u4 (lT ((bys s).drop 1) k)) := ho
      go_wp2_with (at_builtin; go_must (refine list_below (by rfl) _ _ 38 (by rfl) i0 Tryz.underlying38 hi hz0 hz1 hz2 w.heap.size w wr _ _ (s.extract (p + 2) (p + 2 + m)) (by rfl) ho hbel rfl (by rfl) hln ?_; intro v3 w3 o3 b3))
      refine ⟨⟨k + 1, p + 2 + m, by omega, by omega, val_eq (by omega), val_eq (by omega), ?_, b3, ⟨?_, ?_, ?_⟩⟩, by simp [intOf]; omega⟩
      · unfold lT; rw [HI.out.1, Y3.out]; exact o3
      · unfold lR; rw [HI.out.1, Y2.out]
      · unfold lS; rw [HI.out.1, HI.out.2.1, Y1.out]
      · intro j hj
        by_cases e : j < k
        · exact HI.out.2.2 j e
        · obtain rfl : j = k := by omega
          rw [HI.out.1, Y4.out]; omega
    · have HK : Hid (k = n) := by show _ = _; omega
      have hge : ¬ (0 : Int) < (n : Int) - k := by omega
      by_cases h5 : p = s.size
      · subst h5
        have HE : Hid (rdOk (bys s) = true) := by
          refine ok_good _ ?_ ?_ (by rw [HN.out]; omega) (fun j hj => ?_)
          · rw [HY.out.1, HY.out.2, HN.out, ← HK.out]; exact HI.out.2.1
          · rw [HY.out.1, HN.out, ← HK.out, HI.out.1]; exact List.drop_eq_nil_of_le (by rw [bys_length]; exact Nat.le_refl _)
          · rw [HY.out.1]; exact HI.out.2.2 j (by rw [HK.out, ← HN.out]; exact hj)
        have HO : Hid (rdOut (bys s) = lT ((bys s).drop 1) k) := by show _ = _; unfold rdOut; rw [if_pos HE.out, HY.out.1, HN.out, HK.out]
        have hpe : ((s.size : Int) != (s.size : Int)) = false := by simp
        go_wp2_with fail
        go_ret2
        rw [HE.out, HO.out]
        exact ⟨_, rfl, ho, hbel⟩
      · have h5' : ((p : Int) != (s.size : Int)) = true := by simp; omega
        have h5i : ¬ (p : Int) = (s.size : Int) := by omega
        have HE : Hid (rdOk (bys s) = false) := ok_left _ (by
          rw [HY.out.1, HN.out, ← HK.out, HI.out.1]
          cases hd : (bys s).drop p with
          | nil => have := congrArg List.length hd; rw [List.length_drop, bys_length] at this; simp at this; omega
          | cons _ _ => rfl)
        have HO : Hid (rdOut (bys s) = []) := by show _ = _; unfold rdOut; rw [HE.out]; rfl
        go_wp2_with fail
        go_ret2
        rw [HE.out, HO.out]
        exact ⟨_, rfl, own_empty _ _ hbel.size, hbel.alloc hbel.size _⟩
end Go.Proofs.YtondmbeccpekiaaGreatDoor.Rl

/- The laws' marks on bytes: written, and held. -/
namespace Go.Proofs.YtondmbeccpekiaaGreatDoor.Mk
open Go.RowKit Go.Proofs.YtondmbeccpekiaaGreatDoor.Sl Go.Proofs.YtondmbeccpekiaaGreatDoor.By Go.Proofs.YtondmbeccpekiaaGreatDoor.Ap Go.Proofs.YtondmbeccpekiaaGreatDoor.Rq

def marks (a : Int) (n : Nat) : List Int := (List.range n).map fun j : Nat => (a + j) % 256
end Go.Proofs.YtondmbeccpekiaaGreatDoor.Mk

/- The laws' marks on texts. -/
namespace Go.Proofs.YtondmbeccpekiaaGreatDoor.Mk
open Go.RowKit Go.Proofs.YtondmbeccpekiaaGreatDoor.Sl Go.Proofs.YtondmbeccpekiaaGreatDoor.By Go.Proofs.YtondmbeccpekiaaGreatDoor.Ap Go.Proofs.YtondmbeccpekiaaGreatDoor.Rq Go.Proofs.YtondmbeccpekiaaGreatDoor.Ty Go.Proofs.YtondmbeccpekiaaGreatDoor.Rr

theorem ret_str {a b : ByteArray} (h : a = b) : Ending.returned (.string a) = .returned (.string b) := by rw [h]

end Go.Proofs.YtondmbeccpekiaaGreatDoor.Mk
