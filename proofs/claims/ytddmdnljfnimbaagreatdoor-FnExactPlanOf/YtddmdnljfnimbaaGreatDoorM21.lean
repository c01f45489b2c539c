/- Texts put together: Cb2, Sp, Mark, Mkt. -/
import Derived.Test.YtddmdnljfnimbaaGreatDoorM20
import Derived.Test.YtddmdnljfnimbaaGreatDoorM19
import Derived.Test.YtddmdnljfnimbaaGreatDoorM14
import Derived.Test.YtddmdnljfnimbaaGreatDoorM15
import Derived.Test.YtddmdnljfnimbaaGreatDoorM0
import Derived.Test.YtddmdnljfnimbaaGreatDoorM2
import Derived.Test.YtddmdnljfnimbaaGreatDoorM18
/- Certificates' bytes, of the program and of the specification. -/
namespace Go.Proofs.YtddmdnljfnimbaaGreatDoor.Cb
open Go.RowKit Go.Proofs.YtddmdnljfnimbaaGreatDoor.Sl Go.Proofs.YtddmdnljfnimbaaGreatDoor.By Go.Proofs.YtddmdnljfnimbaaGreatDoor.Ap Go.Proofs.YtddmdnljfnimbaaGreatDoor.Rq Go.Proofs.YtddmdnljfnimbaaGreatDoor.Ms Go.Proofs.YtddmdnljfnimbaaGreatDoor.Mp Go.Proofs.YtddmdnljfnimbaaGreatDoor.Rp Go.Proofs.YtddmdnljfnimbaaGreatDoor.Lb Go.Proofs.YtddmdnljfnimbaaGreatDoor.Gm
open Go.Proofs.YtddmdnljfnimbaaGreatDoor.Ty (RowT tnth)
open Go.Proofs.YtddmdnljfnimbaaGreatDoor.Tl (OwnS)
open Go.Proofs.YtddmdnljfnimbaaGreatDoor.Rg (RowG RowG.slice RowG.at lt_at mem_at blk_cell bel_new)

theorem info_s : (Tryz.prog.info? 9).map (fun i => (i.zero, i.size, i.bytes)) = some (some (.string ⟨#[]⟩), 1, 16) := by kernel_rfl
theorem tnth_cases (bd : ByteArray) (ms : List Mg) (j : Nat) (hj : j < (cTs bd ms).length) : tnth (cTs bd ms) j = bd ∨ ∃ x ∈ ms, tnth (cTs bd ms) j = mTx x := by
  unfold tnth cTs at *
  cases j with
  | zero => exact .inl rfl
  | succ k =>
    have hk : k < ms.length := by simpa using hj
    refine .inr ⟨ms[k], List.getElem_mem hk, ?_⟩
    rw [List.getD_cons_succ, List.getD_eq_getElem?_getD, List.getElem?_map, List.getElem?_eq_getElem hk]
    rfl
theorem cTs_len (bd : ByteArray) (ms : List Mg) : (cTs bd ms).length = ms.length + 1 := by unfold cTs; simp
theorem lenTo_le (bd : ByteArray) (ms : List Mg) (h : cfB ms = true) (hb : bd.size ≤ 20000) : ∀ k, k ≤ (cTs bd ms).length → lenTo (cTs bd ms) k ≤ 1 + 20002 * k ∧ (1 ≤ k → lenTo (cTs bd ms) k ≤ 1 + 20002 + 49 * (k - 1))
  | 0, _ => ⟨by unfold lenTo; omega, fun h => by omega⟩
  | k + 1, hk => by
    have ih := lenTo_le bd ms h hb k (by omega)
    have hs : (tnth (cTs bd ms) k).size ≤ 20000 ∧ (1 ≤ k → (tnth (cTs bd ms) k).size = 47) := by
      cases k with
      | zero => exact ⟨hb, fun h => by omega⟩
      | succ q =>
        have hq : q < ms.length := by have := cTs_len bd ms; omega
        have e : tnth (cTs bd ms) (q + 1) = mTx ms[q] := by
          unfold tnth cTs
          rw [List.getD_cons_succ, List.getD_eq_getElem?_getD, List.getElem?_map, List.getElem?_eq_getElem hq]
          rfl
        have := (ok_size ((cf_all h).2 _ (List.getElem_mem hq))).1
        rw [e]
        omega
    unfold lenTo
    refine ⟨by omega, fun _ => ?_⟩
    by_cases hk0 : k = 0
    · subst hk0
      have : lenTo (cTs bd ms) 0 = 1 := rfl
      omega
    · have h1 := ih.2 (by omega)
      have h2 := hs.2 (by omega)
      omega
theorem lenTo_ok (bd : ByteArray) (ms : List Mg) (h : cfB ms = true) (hb : bd.size ≤ 20000) (k : Nat) (hk : k ≤ (cTs bd ms).length) : lenTo (cTs bd ms) k ≤ 65536 := by
  have h1 := lenTo_le bd ms h hb k hk
  have h2 := (cf_all h).1
  have h3 := cTs_len bd ms
  by_cases hk0 : k = 0
  · omega
  · have := h1.2 (by omega)
    omega
theorem c_good (bd : ByteArray) (ms : List Mg) (h : cfB ms = true) (hb : bd.size ≤ 20000) : cCode bd ms = 0 ∧ cOut bd ms = listTo (cTs bd ms) (cTs bd ms).length := by
  have h2 := (cf_all h).1
  have h3 := cTs_len bd ms
  have := lb_good (cTs bd ms) (by omega) (fun j hj => by
    unfold bad
    rw [Bool.or_eq_false_iff, decide_eq_false_iff_not, decide_eq_false_iff_not]
    refine ⟨?_, by have := lenTo_ok bd ms h hb (j + 1) (by omega); omega⟩
    rcases tnth_cases bd ms j hj with e | ⟨x, hx, e⟩
    · rw [e]; omega
    · rw [e, (ok_size ((cf_all h).2 x hx)).1]; omega)
  unfold cCode cOut
  rw [h]
  exact this
theorem c_big (bd : ByteArray) (ms : List Mg) (hb : 20000 < bd.size) : cCode bd ms = 1 ∧ cOut bd ms = [] := by
  unfold cCode cOut
  cases h : cfB ms with
  | false => exact ⟨rfl, rfl⟩
  | true =>
    have h2 := (cf_all h).1
    have h3 := cTs_len bd ms
    have e0 : tnth (cTs bd ms) 0 = bd := rfl
    obtain ⟨h4, h5⟩ := lb_bad (cTs bd ms) 0 (by omega) (by omega) (fun j hj => by omega) (by unfold bad; rw [e0, decide_eq_true hb]; rfl)
    refine ⟨?_, h5⟩
    show lbCode (cTs bd ms) = 1
    rw [h4]
    unfold cd
    rw [e0, if_pos hb]
theorem c_no (bd : ByteArray) (ms : List Mg) (h : cfB ms = false) : cCode bd ms = 1 ∧ cOut bd ms = [] := by
  unfold cCode cOut; rw [h]; exact ⟨rfl, rfl⟩
end Go.Proofs.YtddmdnljfnimbaaGreatDoor.Cb

/- A list is read: the specification. -/
namespace Go.Proofs.YtddmdnljfnimbaaGreatDoor.Rl
open Go.RowKit Go.Proofs.YtddmdnljfnimbaaGreatDoor.Sl Go.Proofs.YtddmdnljfnimbaaGreatDoor.By Go.Proofs.YtddmdnljfnimbaaGreatDoor.Ap Go.Proofs.YtddmdnljfnimbaaGreatDoor.Rq Go.Proofs.YtddmdnljfnimbaaGreatDoor.Rr Go.Proofs.YtddmdnljfnimbaaGreatDoor.Ty Go.Proofs.YtddmdnljfnimbaaGreatDoor.Tl Go.Proofs.YtddmdnljfnimbaaGreatDoor.Of

theorem lS_true (ys : List Int) (sh : Bool) {k n : Nat} (hk : k ≤ n) (h : lS ys sh k = true) : lS ys sh n = true := by
  induction n with
  | zero => obtain rfl : k = 0 := by omega
            exact h
  | succ n ih =>
    by_cases e : k = n + 1
    · subst e; exact h
    · have := ih (by omega)
      unfold lS
      rw [this]
      exact txt_true 2 _
theorem lT_at (ys : List Int) : ∀ (n j : Nat), j < n → tnth (lT ys n) j = txtB 2 (lR ys j)
  | 0, j, h => absurd h (by omega)
  | n + 1, j, h => by
    unfold tnth
    rw [List.getD_eq_getElem?_getD]
    unfold lT
    by_cases e : j < n
    · rw [List.getElem?_append_left (by rw [lT_length]; exact e)]
      have := lT_at ys n j e
      unfold tnth at this
      rw [List.getD_eq_getElem?_getD] at this
      exact this
    · obtain rfl : j = n := by omega
      rw [List.getElem?_append_right (by rw [lT_length]; exact Nat.le_refl _), lT_length, Nat.sub_self]
      rfl
/-- Whether bytes tell a list. -/
def rdOk (xs : List Int) : Bool := !lS (tkR 1 xs) (tkS 1 xs false) (tlN xs) && ((lR (tkR 1 xs) (tlN xs)).isEmpty && okT (lT (tkR 1 xs) (tlN xs)))
def rdOut (xs : List Int) : List ByteArray := if rdOk xs = true then lT (tkR 1 xs) (tlN xs) else []
theorem ok_nil : rdOk [] = false := rfl
theorem ok_many (xs : List Int) (h : 100 < tlN xs) : rdOk xs = false := by
  unfold rdOk okT
  rw [lT_length, decide_eq_false (by omega)]
  simp
theorem ok_short (xs : List Int) {k : Nat} (hk : k ≤ tlN xs) (h : lS (tkR 1 xs) (tkS 1 xs false) k = true) : rdOk xs = false := by
  unfold rdOk
  rw [lS_true _ _ hk h]
  rfl
theorem ok_large (xs : List Int) {k : Nat} (hk : k < tlN xs) (h : 20000 < (txtB 2 (lR (tkR 1 xs) k)).size) : rdOk xs = false := by
  unfold rdOk
  rw [okT_bad (k := k) (by rw [lT_length]; exact hk) (by rw [lT_at _ _ _ hk]; exact h)]
  simp
theorem ok_left (xs : List Int) (h : (lR (tkR 1 xs) (tlN xs)).isEmpty = false) : rdOk xs = false := by
  unfold rdOk
  rw [h]
  simp
theorem ok_good (xs : List Int) (h1 : lS (tkR 1 xs) (tkS 1 xs false) (tlN xs) = false) (h2 : lR (tkR 1 xs) (tlN xs) = []) (h3 : tlN xs ≤ 100) (h4 : ∀ j, j < tlN xs → (txtB 2 (lR (tkR 1 xs) j)).size ≤ 20000) : rdOk xs = true := by
  unfold rdOk
  rw [h1, h2, okT_good (fun j hj => by rw [lT_length] at hj; rw [lT_at _ _ _ hj]; exact h4 j hj), lT_length, decide_eq_true h3]
  rfl
/-- A text that is taken at a place. -/
theorem at_no1 (xs : List Int) (at_ : Nat) (h : xs.length < at_ + 2) (sh : Bool) : txtS 2 (xs.drop at_) sh = true := by
  unfold txtS
  rw [tk_no (n := 2) (xs := xs.drop at_) (by rw [List.length_drop]; omega)]
  rfl
theorem at_num (xs : List Int) (at_ : Nat) (h : at_ + 2 ≤ xs.length) : tkB 2 (xs.drop at_) = (xs.take (at_ + 2)).drop at_ ∧ tkR 2 (xs.drop at_) = xs.drop (at_ + 2) ∧ ∀ sh, tkS 2 (xs.drop at_) sh = sh := by
  obtain ⟨a1, a2, a3⟩ := tk_yes (n := 2) (xs := xs.drop at_) (by rw [List.length_drop]; omega)
  rw [List.drop_drop] at a2
  exact ⟨by rw [a1, List.take_drop], a2, a3⟩
theorem at_no2 (xs : List Int) (at_ : Nat) (h : at_ + 2 ≤ xs.length) (h2 : xs.length < at_ + 2 + txtN 2 (xs.drop at_)) (sh : Bool) : txtS 2 (xs.drop at_) sh = true := by
  obtain ⟨a1, a2, a3⟩ := at_num xs at_ h
  unfold txtS
  rw [a2, tk_no (by rw [List.length_drop]; omega)]
theorem at_yes (xs : List Int) (at_ : Nat) (h : at_ + 2 ≤ xs.length) (h2 : at_ + 2 + txtN 2 (xs.drop at_) ≤ xs.length) :
    txtS 2 (xs.drop at_) false = false ∧ txtR 2 (xs.drop at_) = xs.drop (at_ + 2 + txtN 2 (xs.drop at_)) ∧ txtB 2 (xs.drop at_) = strOfNums ((xs.take (at_ + 2 + txtN 2 (xs.drop at_))).drop (at_ + 2)) ∧ (txtB 2 (xs.drop at_)).size = txtN 2 (xs.drop at_) := by
  obtain ⟨a1, a2, a3⟩ := at_num xs at_ h
  generalize hm : txtN 2 (xs.drop at_) = m at h2 ⊢
  obtain ⟨b1, b2, b3⟩ := tk_yes (n := m) (xs := xs.drop (at_ + 2)) (by rw [List.length_drop]; omega)
  unfold txtS txtR txtB
  rw [hm, a2, a3, b1, b2, b3, List.drop_drop, List.take_drop]
  refine ⟨rfl, rfl, rfl, ?_⟩
  rw [strOfNums_size, List.length_drop, List.length_take]
  omega
theorem own_empty (w : World) (B : Nat) (hB : B ≤ w.heap.size) : OwnS (w.alloc (.cells #[] 9)) B (.slice (some ⟨w.heap.size, 0, none⟩) 0 0) [] :=
  World.ownsRow_made w #[] 0 hB (by decide) (by decide)

/-- 'append(list, t)' of one text in a plain region, where nothing old is written. -/
theorem list_below {P : Program} {ops : Array Oper} {rest : List Oper} {o : Oper} {a : Act} {Q : Exit → Act → World → Prop} (hgd : o.guard = none) (s x : Operand) (t : TypeId)
    (ho : o.op = .call { callee := .builtin .append, args := #[s, x], argTypes := #[t, t] }) (i : TypeInfo) (ht : P.underlying t = some (.slice 9)) (hi : P.info? 9 = some i) (hz : i.zero = some (.string ⟨#[]⟩))
    (hsize : i.size = 1) (hby : i.bytes = 16) (B : Nat) (w0 W : World) (v : Value) (ts : List ByteArray) (z : ByteArray) (hs : a.eval s = v) (hown : OwnS W B v ts) (hg0 : Below B w0 W) (hB : w0.heap.size = B)
    (hx : a.eval x = .slice (some ⟨W.heap.size, 0, none⟩) 1 1) (hlen : ts.length ≤ 1000000)
    (h : ∀ v' w', OwnS w' B v' (ts ++ [z]) → Below B w0 w' → wpList P ops Q rest (a.put o.dst v') w') : wpList P ops Q (o :: rest) a (W.alloc (.cells #[.string z] 9)) := by
  refine list_text hgd s x t ho i ht hi hz hsize hby B B w0 W v ts z hs hown ⟨hg0.os, hg0.tape, hg0.output, hg0.size, fun k hk _ => hg0.block k (by omega)⟩ hB hx hlen ?_
  intro v' w' h1 h2 _
  exact h v' w' h1 ⟨h2.os, h2.tape, h2.output, h2.size, fun k hk => h2.block k (by omega) (by simp; omega)⟩

set_option maxRecDepth 100000 in
set_option maxHeartbeats 1600000 in
theorem l02ReadList_any (s : ByteArray) (w : World) (hs : s.size ≤ 65536) :
    Calls Tryz.prog 56 #[.string s] w fun e w' => ∃ v', e = .returned (.tuple #[v', .bool (rdOk (bys s))]) ∧ OwnS w' w.heap.size v' (rdOut (bys s)) ∧ Below w.heap.size w w' := by
  by_cases h0 : s.size = 0
  · have e0 : s = ⟨#[]⟩ := ByteArray.ext (Array.eq_empty_of_size_eq_zero h0)
    subst e0
    have HE : Hid (rdOk (bys ⟨#[]⟩) = false ∧ rdOut (bys ⟨#[]⟩) = []) := ⟨rfl, rfl⟩
    clear h0 hs
    go_enter Tryz.func56, Tryz.ntmps56
    go_wp2_with fail
    go_ret2
    rw [HE.out.1, HE.out.2]
    exact ⟨_, rfl, own_empty _ _ (Nat.le_refl _), (Below.refl _ _).alloc (Nat.le_refl _) _⟩
  have hpos : 0 < s.size := by omega
  have hb := (s[0]'hpos).toNat_lt
  have hne : s.toList.isEmpty = false := by
    rw [ByteArray.toList_eq, List.isEmpty_eq_false_iff]
    intro hd
    have h1 : s.data.toList.length = 0 := by rw [hd]; rfl
    rw [Array.length_toList] at h1
    exact absurd hpos (by show ¬ 0 < s.data.size; omega)
  have hl0 : 0 < (bys s).length := by rw [bys_length]; exact hpos
  obtain ⟨a1, a2, a3⟩ := tk_yes (n := 1) (xs := bys s) (by omega)
  have HN : Hid (tlN (bys s) = (s[0]'hpos).toNat) := by
    show _ = _
    unfold tlN
    rw [a1, be1 hl0, bys_at s 0 hpos]
    rfl
  have HY : Hid (tkR 1 (bys s) = (bys s).drop 1 ∧ tkS 1 (bys s) false = false) := ⟨a2, a3 false⟩
  clear a1 a2 a3 hl0 h0
  by_cases hmany : 100 < (s[0]'hpos).toNat
  · have hmany' : (100 : Int) < ((s[0]'hpos).toNat : Int) := by omega
    have HE : Hid (rdOk (bys s) = false) := ok_many _ (by rw [HN.out]; exact hmany)
    have HO : Hid (rdOut (bys s) = []) := by show _ = _; unfold rdOut; rw [HE.out]; rfl
    go_enter Tryz.func56, Tryz.ntmps56
    go_wp2_with fail
    go_ret2
    rw [HE.out, HO.out]
    exact ⟨_, rfl, own_empty _ _ (Nat.le_refl _), (Below.refl _ _).alloc (Nat.le_refl _) _⟩
  have hmany' : ((s[0]'hpos).toNat : Int) ≤ 100 := by omega
  go_enter Tryz.func56, Tryz.ntmps56
  have HA : Hid (nth (bys s) 0 = ((s[0]'hpos).toNat : Int)) := bys_at s 0 hpos
  go_wp2_with fail
  have HB0 : Hid (Below w.heap.size w (w.alloc (.cells #[] 9))) := (Below.refl _ _).alloc (Nat.le_refl _) _
  generalize hnn : (s[0]'hpos).toNat = n at hb hmany hmany' HN HA ⊢
  obtain ⟨i0, hi, hz0, hz1, hz2⟩ := info_parts info9
  go_loopw [4, 5, 6] (fun out at_ i wr => ∃ k p : Nat, k ≤ n ∧ p ≤ s.size ∧ i = .int .i64 ((n : Int) - k) ∧ at_ = .int .i64 p ∧ OwnS wr w.heap.size out (lT ((bys s).drop 1) k) ∧ Below w.heap.size w wr ∧ Hid (lR ((bys s).drop 1) k = (bys s).drop p ∧ lS ((bys s).drop 1) false k = false ∧ ∀ j, j < k → (txtB 2 (lR ((bys s).drop 1) j)).size ≤ 20000)) (fun _ _ i _ => (intOf i).toNat)
  case atStart => exact ⟨0, 1, by omega, by omega, by simp, rfl, own_empty _ _ (Nat.le_refl _), HB0.out, ⟨rfl, rfl, fun j hj => absurd hj (by omega)⟩⟩
  case round =>
    clear HB0
    obtain ⟨k, p, hk, hp, rfl, rfl, ho, hbel, HI⟩ := hrel
    by_cases hlt : k < n
    · have hlt' : (0 : Int) < (n : Int) - k := by omega
      by_cases h2 : s.size < p + 2
      · have h2' : (s.size : Int) < (p : Int) + 2 := by omega
        have HE : Hid (rdOk (bys s) = false) := ok_short _ (k := k + 1) (by rw [HN.out]; omega) (by rw [HY.out.1, HY.out.2]; unfold lS; rw [HI.out.1]; exact at_no1 _ _ (by rw [bys_length]; exact h2) _)
        have HO : Hid (rdOut (bys s) = []) := by show _ = _; unfold rdOut; rw [HE.out]; rfl
        go_wp2_with fail
        go_ret2
        rw [HE.out, HO.out]
        exact ⟨_, rfl, own_empty _ _ hbel.size, hbel.alloc hbel.size _⟩
      have h2' : (p : Int) + 2 ≤ (s.size : Int) := by omega
      have hex : (s.extract p (p + 2)).size ≤ 4 := by rw [ByteArray.size_extract]; omega
      have HM : Hid (beN (bys (s.extract p (p + 2))) = (txtN 2 ((bys s).drop p) : Int) ∧ txtN 2 ((bys s).drop p) ≤ 65535) := by
        have hr : ∀ x ∈ (bys s).drop p, 0 ≤ x ∧ x ≤ 255 := fun x hx => bys_range s x (List.mem_of_mem_drop hx)
        obtain ⟨t1, t2⟩ := txtN_le 2 ((bys s).drop p) (by decide) hr
        refine ⟨?_, t1⟩
        rw [← t2, (at_num (bys s) p (by rw [bys_length]; omega)).1, bys_ext]
      go_wp2_with fail
      refine (l02Of_any (s.extract p (p + 2)) _ hex).mono ?_
      rintro e w2 ⟨rfl, hw⟩
      rw [hw, HM.out.1]
      clear hw hex
      have hm := HM.out.2
      have HMM : Hid (txtN 2 (lR ((bys s).drop 1) k) = txtN 2 ((bys s).drop p)) := by show _ = _; rw [HI.out.1]
      obtain ⟨m, HMe⟩ : ∃ m, Hid (txtN 2 ((bys s).drop p) = m) := ⟨_, rfl⟩
      rw [HMe.out] at hm ⊢
      clear HM
      by_cases h3 : s.size < p + 2 + m
      · have h3' : (s.size : Int) < (p : Int) + 2 + (m : Int) := by omega
        have HE : Hid (rdOk (bys s) = false) := ok_short _ (k := k + 1) (by rw [HN.out]; omega) (by rw [HY.out.1, HY.out.2]; unfold lS; rw [HI.out.1]; exact at_no2 _ _ (by rw [bys_length]; omega) (by rw [bys_length, HMe.out]; omega) _)
        have HO : Hid (rdOut (bys s) = []) := by show _ = _; unfold rdOut; rw [HE.out]; rfl
        by_cases h4 : 20000 < m
        · have h4' : (20000 : Int) < (m : Int) := by omega
          go_wp2_with fail
          go_ret2
          rw [HE.out, HO.out]
          exact ⟨_, rfl, own_empty _ _ hbel.size, hbel.alloc hbel.size _⟩
        · have h4' : (m : Int) ≤ 20000 := by omega
          go_wp2_with fail
          go_ret2
          rw [HE.out, HO.out]
          exact ⟨_, rfl, own_empty _ _ hbel.size, hbel.alloc hbel.size _⟩
      have h3' : (p : Int) + 2 + (m : Int) ≤ (s.size : Int) := by omega
      obtain ⟨y1, y2, y3, y4⟩ := at_yes (bys s) p (by rw [bys_length]; omega) (by rw [bys_length, HMe.out]; omega)
      rw [HMe.out] at y2 y3 y4
      rw [← bys_ext, str_bys] at y3
      have Y1 : Hid (txtS 2 ((bys s).drop p) false = false) := y1
      have Y2 : Hid (txtR 2 ((bys s).drop p) = (bys s).drop (p + 2 + m)) := y2
      have Y3 : Hid (txtB 2 ((bys s).drop p) = s.extract (p + 2) (p + 2 + m)) := y3
      have Y4 : Hid ((txtB 2 ((bys s).drop p)).size = m) := y4
      clear y1 y2 y3 y4
      by_cases h4 : 20000 < m
      · have h4' : (20000 : Int) < (m : Int) := by omega
        have HE : Hid (rdOk (bys s) = false) := ok_large _ (k := k) (by rw [HN.out]; omega) (by rw [HY.out.1, HI.out.1, Y4.out]; exact h4)
        have HO : Hid (rdOut (bys s) = []) := by show _ = _; unfold rdOut; rw [HE.out]; rfl
        go_wp2_with fail
        go_ret2
        rw [HE.out, HO.out]
        exact ⟨_, rfl, own_empty _ _ hbel.size, hbel.alloc hbel.size _⟩
      have h4' : (m : Int) ≤ 20000 := by omega
      have hln : (lT ((bys s).drop 1) k).length ≤ 1000000 := by rw [lT_length]; omega
      have HO : Hid (OwnS wr w.heap.size u4 (lT ((bys s).drop 1) k)) := ho
      go_wp2_with (at_builtin; go_must (refine list_below (by rfl) _ _ 45 (by rfl) i0 Tryz.underlying45 hi hz0 hz1 hz2 w.heap.size w wr _ _ (s.extract (p + 2) (p + 2 + m)) (by rfl) ho hbel rfl (by rfl) hln ?_; intro v3 w3 o3 b3))
      refine ⟨⟨k + 1, p + 2 + m, by omega, by omega, val_eq (by omega), val_eq (by omega), ?_, b3, ⟨?_, ?_, ?_⟩⟩, by simp [intOf]; omega⟩
      · unfold lT; rw [HI.out.1, Y3.out]; exact o3
      · unfold lR; rw [HI.out.1, Y2.out]
      · unfold lS; rw [HI.out.1, HI.out.2.1, Y1.out]
      · intro j hj
        by_cases e : j < k
        · exact HI.out.2.2 j e
        · obtain rfl : j = k := by omega
          rw [HI.out.1, Y4.out]; omega
    · have HK : Hid (k = n) := by show _ = _; omega
      have hge : ¬ (0 : Int) < (n : Int) - k := by omega
      by_cases h5 : p = s.size
      · subst h5
        have HE : Hid (rdOk (bys s) = true) := by
          refine ok_good _ ?_ ?_ (by rw [HN.out]; omega) (fun j hj => ?_)
          · rw [HY.out.1, HY.out.2, HN.out, ← HK.out]; exact HI.out.2.1
          · rw [HY.out.1, HN.out, ← HK.out, HI.out.1]; exact List.drop_eq_nil_of_le (by rw [bys_length]; exact Nat.le_refl _)
          · rw [HY.out.1]; exact HI.out.2.2 j (by rw [HK.out, ← HN.out]; exact hj)
        have HO : Hid (rdOut (bys s) = lT ((bys s).drop 1) k) := by show _ = _; unfold rdOut; rw [if_pos HE.out, HY.out.1, HN.out, HK.out]
        have hpe : ((s.size : Int) != (s.size : Int)) = false := by simp
        go_wp2_with fail
        go_ret2
        rw [HE.out, HO.out]
        exact ⟨_, rfl, ho, hbel⟩
      · have h5' : ((p : Int) != (s.size : Int)) = true := by simp; omega
        have h5i : ¬ (p : Int) = (s.size : Int) := by omega
        have HE : Hid (rdOk (bys s) = false) := ok_left _ (by
          rw [HY.out.1, HN.out, ← HK.out, HI.out.1]
          cases hd : (bys s).drop p with
          | nil => have := congrArg List.length hd; rw [List.length_drop, bys_length] at this; simp at this; omega
          | cons _ _ => rfl)
        have HO : Hid (rdOut (bys s) = []) := by show _ = _; unfold rdOut; rw [HE.out]; rfl
        go_wp2_with fail
        go_ret2
        rw [HE.out, HO.out]
        exact ⟨_, rfl, own_empty _ _ hbel.size, hbel.alloc hbel.size _⟩
end Go.Proofs.YtddmdnljfnimbaaGreatDoor.Rl

/- The laws' marks on bytes: written, and held. -/
namespace Go.Proofs.YtddmdnljfnimbaaGreatDoor.Mk
open Go.RowKit Go.Proofs.YtddmdnljfnimbaaGreatDoor.Sl Go.Proofs.YtddmdnljfnimbaaGreatDoor.By Go.Proofs.YtddmdnljfnimbaaGreatDoor.Ap Go.Proofs.YtddmdnljfnimbaaGreatDoor.Rq

/-- Bytes whose first i are marked, from a on. -/
def marksTo (zs : List Int) (a : Int) (i : Nat) : List Int := (List.range zs.length).map fun j => if j < i then (a + j) % 256 else nth zs j
def marks (a : Int) (n : Nat) : List Int := (List.range n).map fun j : Nat => (a + j) % 256
theorem marksTo_length (zs : List Int) (a : Int) (i : Nat) : (marksTo zs a i).length = zs.length := by simp [marksTo]
theorem marks_length (a : Int) (n : Nat) : (marks a n).length = n := by simp [marks]
theorem marksTo_zero (zs : List Int) (a : Int) : marksTo zs a 0 = zs := by
  apply List.ext_getElem?
  intro j
  unfold marksTo
  by_cases h : j < zs.length
  · rw [List.getElem?_map, List.getElem?_range h, List.getElem?_eq_getElem h]
    simp [nth, List.getElem?_eq_getElem h]
  · rw [List.getElem?_eq_none (by simp; omega), List.getElem?_eq_none (by omega)]
theorem marksTo_all (zs : List Int) (a : Int) : marksTo zs a zs.length = marks a zs.length := by
  unfold marksTo marks
  apply List.map_congr_left
  intro j hj
  rw [if_pos (by simpa using hj)]
theorem marksTo_succ (zs : List Int) (a : Int) (i : Nat) (h : i < zs.length) : (marksTo zs a i).set i ((a + i) % 256) = marksTo zs a (i + 1) := by
  apply List.ext_getElem?
  intro j
  rw [List.getElem?_set]
  unfold marksTo
  by_cases hj : j < zs.length
  · by_cases e : i = j
    · subst e
      rw [if_pos rfl, if_pos (by simpa using h), List.getElem?_map, List.getElem?_range h]
      simp
    · rw [if_neg e, List.getElem?_map, List.getElem?_map, List.getElem?_range hj]
      by_cases e2 : j < i
      · simp [e2, show j < i + 1 by omega]
      · simp [e2, show ¬ j < i + 1 by omega]
  · rw [if_neg (by omega), List.getElem?_eq_none (by simp; omega), List.getElem?_eq_none (by simp; omega)]
theorem marks_range (a : Int) (n : Nat) : ∀ z ∈ marks a n, 0 ≤ z ∧ z ≤ 255 := by
  intro z hz
  unfold marks at hz
  obtain ⟨j, _, rfl⟩ := List.mem_map.1 hz
  omega
theorem marks_at (a : Int) (n i : Nat) (h : i < n) : nth (marks a n) i = (a + i) % 256 := by
  unfold nth marks
  rw [List.getD_eq_getElem?_getD, List.getElem?_map, List.getElem?_range h]
  rfl

/-- A slice of the call's own: what a store into it wants, and leaves. -/
theorem own_store {e : TypeId} {w : World} {B n : Nat} {v : Value} {zs : List Int} (h : OwnB e w B v zs) (hn : zs.length = n) (hp : 0 < n) :
    ∃ g cap, v = .slice (some ⟨g, 0, none⟩) n cap ∧ n ≤ cap ∧ g < w.heap.size ∧ ∀ w', OwnB e w' B v zs → ∀ j, j < n → w'.cell? ⟨g, j, none⟩ = some (.int .u8 (nth zs j)) ∧ w'.frozen? ⟨g, j, none⟩ = false ∧ ∀ z, OwnB e (w'.setCell ⟨g, j, none⟩ (.int .u8 z)) B v (zs.set j z) ∧ Kp w' (w'.setCell ⟨g, j, none⟩ (.int .u8 z)) v v := by
  obtain ⟨g, cap, hv, hb, hg⟩ : ∃ g cap, v = .slice (some ⟨g, 0, none⟩) n cap ∧ n ≤ cap ∧ g < w.heap.size := by
    obtain ⟨_, h⟩ := h
    rcases h with ⟨_, h0⟩ | ⟨g, cap, cur, hv, _, hg, hnc, _⟩
    · omega
    · exact ⟨g, cap, by rw [hv, hn], by omega, (Array.getElem?_eq_some_iff.1 hg).1⟩
  refine ⟨g, cap, hv, hb, hg, fun w' h' j hj => ?_⟩
  unfold OwnB at h'
  subst hv
  rw [hn] at h'
  refine ⟨?_, h'.frozenAt j, fun z => ?_⟩
  · rw [h'.cellAt j (by omega), List.getElem?_map, List.getElem?_eq_getElem (by omega)]
    unfold nth
    rw [List.getD_eq_getElem?_getD, List.getElem?_eq_getElem (by omega)]
    rfl
  · obtain ⟨h1, h2⟩ := h'.stored j (.int .u8 z)
    refine ⟨?_, Kp.of_grown (by simpa [Value.ownBlock] using h2) (.inl rfl)⟩
    unfold OwnB
    rw [List.length_set, List.map_set, hn]
    exact h1

end Go.Proofs.YtddmdnljfnimbaaGreatDoor.Mk

/- The laws' marks on texts. -/
namespace Go.Proofs.YtddmdnljfnimbaaGreatDoor.Mk
open Go.RowKit Go.Proofs.YtddmdnljfnimbaaGreatDoor.Sl Go.Proofs.YtddmdnljfnimbaaGreatDoor.By Go.Proofs.YtddmdnljfnimbaaGreatDoor.Ap Go.Proofs.YtddmdnljfnimbaaGreatDoor.Rq Go.Proofs.YtddmdnljfnimbaaGreatDoor.Ty Go.Proofs.YtddmdnljfnimbaaGreatDoor.Rr

/-- The digits of a number, ahead of a text. -/
def mtGo : Nat → Nat → ByteArray → ByteArray
  | 0, _, s => s
  | f + 1, k, s => if k = 0 then s else mtGo f (k / 10) (strOfNums [48 + ((k % 10 : Nat) : Int)] ++ s)
def mtext (k : Nat) : ByteArray := (⟨#[109]⟩ : ByteArray) ++ mtGo (k + 1) k ⟨#[]⟩
theorem ret_str {a b : ByteArray} (h : a = b) : Ending.returned (.string a) = .returned (.string b) := by rw [h]

set_option maxRecDepth 100000 in
set_option maxHeartbeats 400000 in
theorem markText_any (k : Nat) (w : World) (h0 : 0 < k) (h1 : k ≤ 10000000) :
    Calls Tryz.prog 37 #[.int .i64 k] w fun e w' => e = .returned (.string (mtext k)) ∧ Below w.heap.size w w' := by
  have h0' : ¬ (k : Int) ≤ 0 := by omega
  have h1' : (k : Int) ≤ 10000000 := by omega
  have HT : Hid (mtext k = (⟨#[109]⟩ : ByteArray) ++ mtGo (k + 1) k ⟨#[]⟩) := rfl
  go_enter Tryz.func37, Tryz.ntmps37
  go_wp2_with fail
  go_loopw [0, 3] (fun n s wr => ∃ (q f : Nat) (t : ByteArray), n = .int .i64 q ∧ s = .string t ∧ q ≤ 10000000 ∧ t.size + q ≤ 10000000 ∧ Hid (q < f ∧ mtGo f q t = mtGo (k + 1) k ⟨#[]⟩) ∧ Below w.heap.size w wr) (fun n _ _ => (intOf n).toNat)
  case atStart => exact ⟨k, k + 1, ⟨#[]⟩, rfl, rfl, by omega, by simp [ByteArray.size]; omega, ⟨by omega, rfl⟩, Below.refl _ _⟩
  case round =>
    obtain ⟨q, f, t, rfl, rfl, hq, hts, HF, hbel⟩ := hrel
    by_cases hz : 0 < q
    · have hz' : (0 : Int) < (q : Int) := by omega
      have hcv := run_convert_row (P := Tryz.prog) (wr.alloc (.cells #[.int .u8 (48 + (q : Int) % 10)] 5)) (wr.heap.size + 1) 91 5 9 Tryz.underlying91 Tryz.underlying5 Tryz.underlying9 (.slice (some ⟨wr.heap.size, 0, none⟩) 1 1) [48 + (q : Int) % 10] (by have := RowU.of (own_rowB (own_one 5 wr wr.heap.size (48 + (q : Int) % 10) (Nat.le_refl _)) (one_range (by omega))); rw [size_new] at this; exact this)
      have hs1 : (strOfNums [48 + (q : Int) % 10]).size = 1 := by rw [strOfNums_size]; rfl
      have hsz : ¬ 9223372036854775807 < (strOfNums [48 + (q : Int) % 10]).size + t.size := by rw [hs1]; omega
      have HS1 : Hid ((strOfNums [48 + (q : Int) % 10]).size = 1) := hs1
      have HE : Hid (∃ f', q / 10 < f' ∧ mtGo f' (q / 10) (strOfNums [48 + (q : Int) % 10] ++ t) = mtGo (k + 1) k ⟨#[]⟩) := by
        obtain ⟨e1, e2⟩ := HF.out
        cases f with
        | zero => omega
        | succ f =>
          refine ⟨f, by omega, ?_⟩
          rw [← e2]
          show _ = if q = 0 then t else mtGo f (q / 10) (strOfNums [48 + ((q % 10 : Nat) : Int)] ++ t)
          rw [if_neg (by omega)]
          rfl
      clear hs1 HF
      go_wp2_with fail
      obtain ⟨f', e1, e2⟩ := HE.out
      exact ⟨⟨q / 10, f', strOfNums [48 + (q : Int) % 10] ++ t, by simp, rfl, by omega, by rw [ByteArray.size_append, HS1.out]; omega, ⟨e1, e2⟩, hbel.alloc hbel.size _⟩, by simp [intOf]; omega⟩
    · have hz0 : q = 0 := by omega
      have HE : Hid (mtGo (k + 1) k ⟨#[]⟩ = t) := by
        show _ = _
        obtain ⟨e1, e2⟩ := HF.out
        rw [← e2, hz0]
        cases f with
        | zero => rfl
        | succ f => rfl
      have hz' : ¬ (0 : Int) < (q : Int) := by omega
      have hz2 : ¬ 0 < q := hz
      have hsz2 : ¬ 9223372036854775807 < 1 + t.size := by omega
      have hsz3 : ¬ 9223372036854775807 < (⟨#[109]⟩ : ByteArray).size + t.size := hsz2
      clear hz0
      go_wp2
      go_ret
      exact ⟨ret_str (by rw [HT.out, HE.out]), hbel⟩

/-- Marked texts, from a on. -/
def tmarks (a n : Nat) : List ByteArray := (List.range n).map fun j => mtext (a + j)
theorem tmarks_length (a n : Nat) : (tmarks a n).length = n := by simp [tmarks]
theorem tmarks_at (a n j : Nat) (h : j < n) : tnth (tmarks a n) j = mtext (a + j) := by
  unfold tnth tmarks
  rw [List.getD_eq_getElem?_getD, List.getElem?_map, List.getElem?_range h]
  rfl
theorem kp_set {w : World} {g n : Nat} (j : Nat) (x : Value) : Kp w (w.setCell ⟨g, j, none⟩ x) (.slice (some ⟨g, 0, none⟩) n n) (.slice (some ⟨g, 0, none⟩) n n) :=
  Kp.of_grown (grown_set j x) (.inl rfl)

set_option maxHeartbeats 400000 in
theorem markStringS_any (v : Value) (ts : List ByteArray) (a : Nat) (B : Nat) (w : World) (h : OwnT w B v ts) (ha : 0 < a) (ha2 : a ≤ 100) (hl : ts.length ≤ 2000000) :
    Calls Tryz.prog 25 #[v, .int .i64 a] w fun e w' => e = .returned (.int .i64 ((a : Int) + ts.length)) ∧ OwnT w' B v (tmarks a ts.length) ∧ Kp w w' v v := by
  obtain ⟨g, A0, rfl, hB, hg, hsz, _⟩ := h
  generalize ts.length = n at hsz hl ⊢
  have HG : Hid (w.heap[g]? = some (.cells A0 9 (0, 0)) ∧ A0.size = n) := ⟨hg, hsz⟩
  clear hg hsz
  go_enter Tryz.func25, Tryz.ntmps25
  go_wp2_with fail
  go_loopw [1, 5] (fun k i wr => ∃ (q : Nat) (A : Array Value), q ≤ n ∧ k = .int .i64 ((a : Int) + (q : Int)) ∧ i = .int .i64 q ∧ Hid (wr.heap[g]? = some (.cells A 9 (0, 0)) ∧ A.size = n ∧ ∀ j, j < q → A[j]? = some (.string (mtext (a + j)))) ∧ Kp w wr (.slice (some ⟨g, 0, none⟩) n n) (.slice (some ⟨g, 0, none⟩) n n)) (fun _ i _ => n - (intOf i).toNat)
  case atStart => exact ⟨0, A0, by omega, by simp, rfl, ⟨HG.out.1, HG.out.2, fun j hj => absurd hj (by omega)⟩, Kp.refl _ _⟩
  case round =>
    obtain ⟨q, A, hq, rfl, rfl, HA, hk⟩ := hrel
    by_cases hlt : q < n
    · have EA : Hid ((a : Int) + (q : Int) = ((a + q : Nat) : Int)) := by show _ = _; omega
      go_wp2_with fail
      rw [EA.out]
      refine (markText_any (a + q) _ (by omega) (by omega)).mono ?_
      rintro e w2 ⟨rfl, b2⟩
      have hg2 : w2.heap[g]? = some (.cells A 9 (0, 0)) := (b2.block g (Array.getElem?_eq_some_iff.1 HA.out.1).1).trans HA.out.1
      obtain ⟨x, hx⟩ : ∃ x, A[q]? = some x := ⟨_, Array.getElem?_eq_getElem (by rw [HA.out.2.1]; exact hlt)⟩
      obtain ⟨c1, f1⟩ := blk_cell hg2 q hx
      have hg3 := blk_set hg2 q (.string (mtext (a + q)))
      have HA' : Hid ((w2.setCell ⟨g, q, none⟩ (.string (mtext (a + q)))).heap[g]? = some (.cells (A.setIfInBounds q (.string (mtext (a + q)))) 9 (0, 0)) ∧ (A.setIfInBounds q (.string (mtext (a + q)))).size = n ∧ ∀ j, j < q + 1 → (A.setIfInBounds q (.string (mtext (a + q))))[j]? = some (.string (mtext (a + j)))) := by
        refine ⟨hg3, by rw [Array.size_setIfInBounds]; exact HA.out.2.1, fun j hj => ?_⟩
        rw [Array.getElem?_setIfInBounds]
        by_cases e : q = j
        · subst e
          rw [if_pos rfl, if_pos (by rw [HA.out.2.1]; exact hlt)]
        · rw [if_neg e]
          exact HA.out.2.2 j (by omega)
      have hk2 := (hk.trans (Kp.of_below _ b2)).trans (kp_set (w := w2) (g := g) (n := n) q (.string (mtext (a + q))))
      clear hg2 hg3 hx b2
      go_wp2_with fail
      exact ⟨⟨q + 1, _, by omega, by go_num, by go_num, HA'.out, hk2⟩, by simp [intOf]; omega⟩
    · obtain rfl : q = n := by omega
      go_wp2
      go_ret
      refine ⟨rfl, ⟨g, A, by rw [tmarks_length], hB, HA.out.1, by rw [tmarks_length]; exact HA.out.2.1, fun j hj => ?_⟩, hk⟩
      rw [tmarks_length] at hj
      rw [tmarks_at a q j hj]
      exact HA.out.2.2 j hj
end Go.Proofs.YtddmdnljfnimbaaGreatDoor.Mk
