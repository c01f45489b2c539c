/- A batch is read: ReadBatch of the specification. -/
import Derived.Test.YtkmnjnblacmjlaaSbm
namespace Go.Proofs.Ytkmnjnblacmjlaa.Tkb
open Go.RowKit Go.Proofs.Ytkmnjnblacmjlaa.Sl Go.Proofs.Ytkmnjnblacmjlaa.By Go.Proofs.Ytkmnjnblacmjlaa.Ap Go.Proofs.Ytkmnjnblacmjlaa.Rq Go.Proofs.Ytkmnjnblacmjlaa.Rr Go.Proofs.Ytkmnjnblacmjlaa.Gr Go.Proofs.Ytkmnjnblacmjlaa.Bo Go.Proofs.Ytkmnjnblacmjlaa.Of
open Go.Proofs.Ytkmnjnblacmjlaa.Rg (RowG RowG.slice RowG.at lt_at mem_at bel_new)

/-- While the specification reads a batch: its box x, the answer's box, the readings so far. -/
structure Ts (w w' : World) (x : Nat) (v : Value) (ms : List Rd) : Prop where
  hx : w'.heap[x]? = some (.cells #[.bool false, .int .i64 0, .int .i64 0, .int .i64 0, .int .i64 0, .string ⟨#[]⟩, v] 35 (0, 0))
  ha : w'.heap[w.heap.size]? = some (.cells zbat 35 (0, 0))
  own : OwnR w' (w.heap.size + 1) v ms
  bel : Below w.heap.size w w'
  lt : w.heap.size < x
theorem Ts.below {w w' w2 : World} {x : Nat} {v : Value} {ms : List Rd} (h : Ts w w' x v ms) (hb : Below w'.heap.size w' w2) : Ts w w2 x v ms :=
  ⟨(hb.block x (Array.getElem?_eq_some_iff.1 h.hx).1).trans h.hx, (hb.block _ (Array.getElem?_eq_some_iff.1 h.ha).1).trans h.ha, h.own.below hb, h.bel.trans (hb.mono h.bel.size), h.lt⟩
theorem Ts.drew {w w' : World} {x : Nat} {v : Value} {ms : List Rd} (h : Ts w w' x v ms) : Ts w w'.drew x v ms := h.below (Below.refl _ _).drew
theorem Ts.alloc {w w' : World} {x : Nat} {v : Value} {ms : List Rd} (h : Ts w w' x v ms) (o : Obj) : Ts w (w'.alloc o) x v ms := h.below (bel_new _ _)
theorem Ts.c6 {w w' : World} {x : Nat} {v : Value} {ms : List Rd} (h : Ts w w' x v ms) : w'.cell? ⟨x, 6, none⟩ = some v := (blk_cell h.hx 6 (x := v) rfl).1
/-- Behind the append, ahead of the store. -/
structure Te (w w' : World) (x : Nat) (v v' : Value) (ms : List Rd) : Prop where
  hx : w'.heap[x]? = some (.cells #[.bool false, .int .i64 0, .int .i64 0, .int .i64 0, .int .i64 0, .string ⟨#[]⟩, v] 35 (0, 0))
  ha : w'.heap[w.heap.size]? = some (.cells zbat 35 (0, 0))
  own : OwnR w' (w.heap.size + 1) v' ms
  bel : Below w.heap.size w w'
  lt : w.heap.size < x
theorem Te.c6 {w w' : World} {x : Nat} {v v' : Value} {ms : List Rd} (h : Te w w' x v v' ms) : w'.cell? ⟨x, 6, none⟩ = some v ∧ w'.frozen? ⟨x, 6, none⟩ = false := blk_cell h.hx 6 (x := v) rfl
theorem Te.set {w w' : World} {x : Nat} {v v' : Value} {ms : List Rd} (h : Te w w' x v v' ms) : Ts w (w'.setCell ⟨x, 6, none⟩ v') x v' ms :=
  ⟨blk_set h.hx 6 v', (blk_far (by have := h.lt; omega) 6 v').trans h.ha, h.own.kept (fun g hg => blk_far (fun e => own_ne h.own h.hx (by rw [hg, e])) 6 v'), Below.setCell h.bel (p := ⟨x, 6, none⟩) (by show _ ≤ x; have := h.lt; omega) v', h.lt⟩
theorem ret_bv {x : Bv} {u : Value} {a b : Bool} (h : a = b) : Ending.returned (.tuple #[.agg #[.bool x.nl, .int .i64 x.c, .int .i64 x.st, .int .i64 x.k, .int .i64 x.l, .string x.n, u], .bool a]) = .returned (.tuple #[bV x u, .bool b]) := by rw [h]; rfl
theorem cells7 {W : World} {x : Nat} {v0 v1 v2 v3 v4 v5 v6 : Value} (h : W.heap[x]? = some (.cells #[v0, v1, v2, v3, v4, v5, v6] 35 (0, 0))) : W.cell? ⟨x, 0, none⟩ = some v0 ∧ W.cell? ⟨x, 1, none⟩ = some v1 ∧ W.cell? ⟨x, 2, none⟩ = some v2 ∧ W.cell? ⟨x, 3, none⟩ = some v3 ∧ W.cell? ⟨x, 4, none⟩ = some v4 ∧ W.cell? ⟨x, 5, none⟩ = some v5 ∧ W.cell? ⟨x, 6, none⟩ = some v6 :=
  ⟨(blk_cell h 0 rfl).1, (blk_cell h 1 rfl).1, (blk_cell h 2 rfl).1, (blk_cell h 3 rfl).1, (blk_cell h 4 rfl).1, (blk_cell h 5 rfl).1, (blk_cell h 6 rfl).1⟩
theorem wrap_b (b : UInt8) : IntKind.i64.wrap ((b.toNat : Nat) : Int) = ((b.toNat : Nat) : Int) := by rw [IntKind.wrap_i64]; have := b.toNat_lt; omega
theorem step_ts {P : Program} {ops : Array Oper} {o : Oper} {a : Act} {K : Act → World → Prop} {Q : Exit → Act → World → Prop} {E : Prop} {i : TypeInfo} (hgd : o.guard = none) (s z : Operand) (t : TypeId) (ho : o.op = .call { callee := .builtin .append, args := #[s, z], argTypes := #[t, t] }) (ht : P.underlying t = some (.slice 43)) (hi : P.info? 43 = some i) (hz : i.zero = some (.agg #[.int .i64 0, .int .i64 0, .string ⟨#[]⟩]))
    (hsize : i.size = 3) (hby : i.bytes = 32) (W w : World) (x : Nat) (v : Value) (ms : List Rd) (m : Rd) (hs : a.eval s = v) (gx : Nat) (hx : a.eval z = .slice (some ⟨gx, 0, none⟩) 1 1) (hbx : W.heap[gx]? = some (.cells #[.int .i64 m.f, .int .i64 m.x, .string m.m] 43 (0, 0)))
    (htb : Ts w W x v ms) (hlen : ms.length ≤ 1000000)
    (h : ∀ v' w', Te w w' x v v' (ms ++ [m]) → K (a.put o.dst v') w') : if Region.wanted o (yielded ops a.tmps) = true then Oper.wp P o a W K Q else E := by
  have hw : Region.wanted o (yielded ops a.tmps) = true := by simp [Region.wanted, hgd]
  rw [if_pos hw]
  have hxl := (Array.getElem?_eq_some_iff.1 htb.hx).1
  have hal := (Array.getElem?_eq_some_iff.1 htb.ha).1
  obtain ⟨v', w', hr, h2, h3, _, h5⟩ := run_append_own_at (P := P) W (w.heap.size + 1) t o.type 43 i _ 3 32 ht hi hz hsize hby rfl (by decide) v ms.length _ htb.own ⟨gx, 0, none⟩ 1 1 (cl m) rfl (by
    intro j u hj
    have e2 : (⟨gx, 0, none⟩ : Addr).add j = ⟨gx, j, none⟩ := by unfold Addr.add; split <;> simp_all
    rw [e2, Joins.cell_of_block hbx, ← hj]
    simp [cl]) (cl_one m) (by unfold maxLen; omega) (by omega) (by omega)
  have far : ∀ k, k ≤ w.heap.size → w'.heap[k]? = W.heap[k]? := fun k hk => h3.block k (by omega) (fun e => by have := (htb.own.lt k e.symm).1; omega)
  refine wp_app ho hs hx hr (h v' w' ⟨(h3.block x hxl (own_ne htb.own htb.hx)).trans htb.hx, (far _ (Nat.le_refl _)).trans htb.ha, by unfold OwnR; rw [List.flatMap_append, List.length_append]; simpa using h2, ⟨h3.os.trans htb.bel.os, h3.tape.trans htb.bel.tape, h3.output.trans htb.bel.output, Nat.le_trans htb.bel.size h3.size, fun k hk => (far k (by omega)).trans (htb.bel.block k hk)⟩, htb.lt⟩)
set_option maxRecDepth 100000 in
set_option maxHeartbeats 4800000 in
theorem l02ReadBatch_any (s : ByteArray) (w : World) (hs : s.size ≤ 65536) :
    Calls Try.prog 12 #[.string s] w fun e w' => ∃ (x : Bv) (u : Value), e = .returned (.tuple #[bV x u, .bool (rbOK (bys s))]) ∧ (rbOK (bys s) = true → x = tbX (bys s)) ∧ OwnR w' w.heap.size u x.rs ∧ Below w.heap.size w w' := by
  have HB0 : Hid (Below w.heap.size w (w.alloc (.cells zbat 35))) := bel_new _ _
  by_cases h0 : s.size = 0
  · have e0 : s = ⟨#[]⟩ := ByteArray.ext (Array.eq_empty_of_size_eq_zero h0)
    subst e0
    have HE : Hid (rbOK (bys ⟨#[]⟩) = false) := rfl
    clear h0 hs
    go_enter Try.func12, Try.ntmps12
    go_wp2_with fail
    exact bodyPost_ret (v := .tuple #[.agg zbat, .bool false]) (by simp [zbat, results, Try.results12, go_sem]) rfl ⟨zBv, .slice none 0 0, by rw [HE.out]; rfl, fun h => absurd (HE.out.symm.trans h) (by decide), OwnR.nil _ _, HB0.out⟩
  have hpos : 0 < s.size := by omega
  have hb := (s[0]'hpos).toNat_lt
  have hne : s.toList.isEmpty = false := by
    rw [ByteArray.toList_eq, List.isEmpty_eq_false_iff]
    intro hd
    have h1 : s.data.toList.length = 0 := by rw [hd]; rfl
    rw [Array.length_toList] at h1
    exact absurd hpos (by show ¬ 0 < s.data.size; omega)
  have hl0 : 0 < (bys s).length := by rw [bys_length]; exact hpos
  have HN : Hid (cnt (bys s) = (s[0]'hpos).toNat) := by
    show _ = _
    unfold cnt
    rw [(tk_yes (n := 1) (xs := bys s) (by omega)).1, be1 hl0, bys_at s 0 hpos]
    rfl
  have HL : Hid ((bys s).length = s.size) := bys_length s
  have HA : Hid (nth (bys s) 0 = ((s[0]'hpos).toNat : Int)) := bys_at s 0 hpos
  by_cases hz : (s[0]'hpos).toNat = 0
  · obtain ⟨hk1, hk2⟩ := rb_null hl0 (by rw [HN.out]; exact hz)
    have HE : Hid (rbOK (bys s) = ((s.size : Int) == 1) ∧ tbX (bys s) = ⟨true, 0, 0, 0, 0, ⟨#[]⟩, []⟩) := ⟨by rw [hk1, HL.out, Bool.eq_iff_iff]; simp; omega, hk2⟩
    clear hk1 hk2 hl0 h0
    generalize hnn : (s[0]'hpos).toNat = n at hb hz HN HA
    subst hz
    go_enter Try.func12, Try.ntmps12
    go_wp2_with fail
    have e1 := Rg.size_new w (.cells #[.bool true, .int .i64 0, .int .i64 0, .int .i64 0, .int .i64 0, .string ⟨#[]⟩, .slice (some ⟨w.heap.size + 1, 0, none⟩) 0 0] 35)
    have OM := OwnR.made (w.alloc (.cells #[.bool true, .int .i64 0, .int .i64 0, .int .i64 0, .int .i64 0, .string ⟨#[]⟩, .slice (some ⟨w.heap.size + 1, 0, none⟩) 0 0] 35)) w.heap.size (by rw [e1]; omega)
    rw [e1] at OM
    have BM : Below w.heap.size w ((w.alloc (.cells #[.bool true, .int .i64 0, .int .i64 0, .int .i64 0, .int .i64 0, .string ⟨#[]⟩, .slice (some ⟨w.heap.size + 1, 0, none⟩) 0 0] 35)).alloc (.cells #[] 43)) := (bel_new _ _).alloc (by rw [e1]; omega) _
    exact bodyPost_ret (v := .tuple #[.agg #[.bool true, .int .i64 0, .int .i64 0, .int .i64 0, .int .i64 0, .string ⟨#[]⟩, .slice (some ⟨w.heap.size + 1, 0, none⟩) 0 0], .bool ((s.size : Int) == 1)]) (by simp [results, Try.results12, go_sem]) rfl ⟨⟨true, 0, 0, 0, 0, ⟨#[]⟩, []⟩, _, by rw [HE.out.1]; rfl, fun _ => HE.out.2.symm, OM, BM⟩
  by_cases hfew : s.size < 1 + 13 * ((s[0]'hpos).toNat - 1)
  · have HE : Hid (rbOK (bys s) = false) := rb_few hl0 (by rw [HN.out]; omega) (by rw [HN.out, HL.out]; exact hfew)
    clear hl0 h0
    generalize hnn : (s[0]'hpos).toNat = n at hb hz HN HA hfew
    have hfew' : (s.size : Int) < 1 + 13 * ((n : Int) - 1) := by omega
    have hz' : ¬ (n : Int) = 0 := by omega
    have hz2 : ((n : Int) == 0) = false := by simp; omega
    go_enter Try.func12, Try.ntmps12
    go_wp2_with fail
    exact bodyPost_ret (v := .tuple #[.agg zbat, .bool false]) (by simp [zbat, results, Try.results12, go_sem]) rfl ⟨zBv, .slice none 0 0, by rw [HE.out]; rfl, fun h => absurd (HE.out.symm.trans h) (by decide), OwnR.nil _ _, HB0.out⟩
  obtain ⟨m1, m2, m3⟩ := rb_many (xs := bys s) (by rw [HN.out]; omega) (by rw [HN.out, HL.out]; omega)
  obtain ⟨n, hnn⟩ : ∃ n, (s[0]'hpos).toNat = n + 1 := ⟨(s[0]'hpos).toNat - 1, by omega⟩
  rw [HN.out, hnn] at m2 m3
  rw [Nat.add_sub_cancel] at m2 m3
  rw [hnn] at HN HA hb hz hfew
  have hz2 : ((n : Int) + 1 == 0) = false := by rw [beq_eq_false_iff_ne]; omega
  have hfew' : ¬ (s.size : Int) < 1 + 13 * (n : Int) := by omega
  have HM : Hid (rbOK (bys s) = (qOK (tbZ (bys s)) && bOKx (tbX (bys s))) ∧ tbZ (bys s) = (bys s).drop (1 + 13 * n) ∧ tbX (bys s) = ⟨false, rqC (tbZ (bys s)), rqS (tbZ (bys s)), rqK (tbZ (bys s)), rqL (tbZ (bys s)), rqN (tbZ (bys s)), bL ((bys s).drop 1) n⟩) := ⟨m1, m2, m3⟩
  clear m1 m2 m3 hl0 h0
  obtain ⟨i0, hi0, hz0, hz1, hz2'⟩ := info_parts info_r
  have e1 := Rg.size_new w (.cells #[.bool false, .int .i64 0, .int .i64 0, .int .i64 0, .int .i64 0, .string ⟨#[]⟩, .slice none 0 0] 35)
  have e2 := Rg.size_new (w.alloc (.cells #[.bool false, .int .i64 0, .int .i64 0, .int .i64 0, .int .i64 0, .string ⟨#[]⟩, .slice none 0 0] 35)) (.cells #[] 43)
  rw [e1] at e2
  have T0 : Hid (Ts w (((w.alloc (.cells #[.bool false, .int .i64 0, .int .i64 0, .int .i64 0, .int .i64 0, .string ⟨#[]⟩, .slice none 0 0] 35)).alloc (.cells #[] 43)).alloc (.cells #[.bool false, .int .i64 0, .int .i64 0, .int .i64 0, .int .i64 0, .string ⟨#[]⟩, .slice (some ⟨w.heap.size + 1, 0, none⟩) 0 0] 35)) (w.heap.size + 1 + 1) (.slice (some ⟨w.heap.size + 1, 0, none⟩) 0 0) []) := by
    refine Ts.mk ?_ ?_ ?_ (((bel_new _ _).alloc (by rw [e1]; omega) _).alloc (by rw [e2]; omega) _) (by omega)
    · have := heap_alloc_new ((w.alloc (.cells #[.bool false, .int .i64 0, .int .i64 0, .int .i64 0, .int .i64 0, .string ⟨#[]⟩, .slice none 0 0] 35)).alloc (.cells #[] 43)) (.cells #[.bool false, .int .i64 0, .int .i64 0, .int .i64 0, .int .i64 0, .string ⟨#[]⟩, .slice (some ⟨w.heap.size + 1, 0, none⟩) 0 0] 35)
      rw [e2] at this
      exact this
    · exact ((Below.heap_alloc _ _ _ (by rw [e2]; omega)).trans (Below.heap_alloc _ _ _ (by rw [e1]; omega))).trans (heap_alloc_new w _)
    · have := OwnR.made (w.alloc (.cells #[.bool false, .int .i64 0, .int .i64 0, .int .i64 0, .int .i64 0, .string ⟨#[]⟩, .slice none 0 0] 35)) (w.heap.size + 1) (by rw [e1]; omega)
      rw [e1] at this
      exact this.alloc _
  have HRD : Hid (∀ k, k < n → ∃ P : ByteArray, s.extract (1 + 13 * k) (14 + 13 * k) = P ∧ P.size = 13 ∧ ∀ h : 0 < P.size, bL ((bys s).drop 1) (k + 1) = bL ((bys s).drop 1) k ++ [⟨((P[0]'h).toNat : Int), beN (bys (P.extract 1 5)), P.extract 5 P.size⟩]) := fun k hk => by
    refine ⟨_, rfl, by rw [ext_size]; omega, fun h => ?_⟩
    show bL _ k ++ [rd1 (bR _ k)] = _
    rw [(b_long ((bys s).drop 1) k (by rw [List.length_drop, HL.out]; omega)).2, List.drop_drop]
    rw [rd_of (p := s.extract (1 + 13 * k) (14 + 13 * k)) (by rw [bys_ext, List.drop_take]; congr 1; omega) (by rw [List.length_drop, HL.out]; omega) h]
  clear e1 e2
  go_enter Try.func12, Try.ntmps12
  go_wp2_with fail
  generalize (((w.alloc (.cells #[.bool false, .int .i64 0, .int .i64 0, .int .i64 0, .int .i64 0, .string ⟨#[]⟩, .slice none 0 0] 35)).alloc (.cells #[] 43)).alloc (.cells #[.bool false, .int .i64 0, .int .i64 0, .int .i64 0, .int .i64 0, .string ⟨#[]⟩, .slice (some ⟨w.heap.size + 1, 0, none⟩) 0 0] 35)) = w2 at T0 ⊢
  generalize w.heap.size + 1 + 1 = x at T0 ⊢
  generalize w.heap.size + 1 = g1 at T0 ⊢
  go_loopw [6] (fun i wr => ∃ (k : Nat) (ap : Option Addr) (cp : Nat), k ≤ n ∧ i = .int .i64 (k : Int) ∧ Hid (Ts w wr x (.slice ap k cp) (bL ((bys s).drop 1) k))) (fun i _ => n - (intOf i).toNat)
  case atStart => exact ⟨0, _, _, by omega, rfl, T0⟩
  case round =>
    clear T0 HB0
    obtain ⟨k, ap, cp, hk, rfl, HT⟩ := hrel
    by_cases hlt : k < n
    · obtain ⟨P, hP, hP13, hPb⟩ := HRD.out k hlt
      have hP0 : 0 < P.size := by omega
      have HEQ : Hid (bL ((bys s).drop 1) (k + 1) = bL ((bys s).drop 1) k ++ [⟨((P[0]'hP0).toNat : Int), beN (bys (P.extract 1 5)), P.extract 5 P.size⟩]) := hPb hP0
      have l1 : (14 : Int) + 13 * (k : Int) ≤ (s.size : Int) := by omega
      have l2 : (1 : Int) + 13 * (k : Int) ≤ 14 + 13 * (k : Int) := by omega
      have l3 : (0 : Int) ≤ 1 + 13 * (k : Int) := by omega
      have j5 : (5 : Int) ≤ (P.size : Int) := by omega
      have j1 : (0 : Int) < (P.size : Int) := by omega
      have HX4 : Hid ((P.extract 1 5).size ≤ 4) := by show _ ≤ _; rw [ext_size]; omega
      have HLN : Hid ((bL ((bys s).drop 1) k).length ≤ 1000000) := by show _ ≤ _; rw [bL_len]; omega
      have HL5 : Hid ((bL ((bys s).drop 1) (k + 1)).length = k + 1) := bL_len _ _
      obtain ⟨ms2, HM2⟩ : ∃ ms2, Hid (bL ((bys s).drop 1) (k + 1) = ms2) := ⟨_, rfl⟩
      obtain ⟨ms, HM1⟩ : ∃ ms, Hid (bL ((bys s).drop 1) k = ms) := ⟨_, rfl⟩
      have HLM : Hid (ms.length = k) := by show _ = _; rw [← HM1.out]; exact bL_len _ _
      rw [HM2.out] at HEQ HL5
      rw [HM1.out] at HLN HEQ HT
      have hP256 : (P[0]'hP0).toNat < 2 ^ 8 := (P[0]'hP0).toNat_lt
      have HP13 : Hid (P.size = 13) := hP13
      clear hP13 hPb hP256
      go_upto_region 13 with fail
      rw [hP]
      clear hP
      have t0 := HT.out
      have q6 := t0.c6
      have qa := fun o => Ts.c6 (t0.alloc o)
      have hPw := wrap_b (P[0]'hP0)
      clear HT
      go_region_law
        (first
          | (go_simp; go_at_call 14; (with_reducible refine (l02Of_any (P.extract 1 5) _ HX4.out).mono ?_); rintro e wn ⟨rfl, rfl⟩; try go_simp)
          | (refine step_ts (by rfl) _ _ 33 (by rfl) Try.underlying33 hi0 hz0 hz1 hz2' _ w x _ ms ⟨((P[0]'hP0).toNat : Int), beN (bys (P.extract 1 5)), P.extract 5 P.size⟩ (by rfl) _ (by rfl) (by first | exact heap_alloc_new _ _ | exact (heap_alloc_new _ _ : (World.alloc _ _).drew.heap[_]? = _)) (by first | assumption | exact Ts.drew (by assumption) | exact Ts.alloc (by assumption) _ | exact Ts.drew (Ts.alloc (by assumption) _) | exact Ts.alloc (Ts.drew (by assumption)) _) HLN.out ?_; intro v5 w5 t5; obtain ⟨a5, cap5, rfl⟩ := RowG.slice (OwnR.row t5.own); obtain ⟨s5, f5⟩ := t5.c6; try go_simp))
      all_goals
        rw [← HEQ.out, HL5.out] at t5
        rw [HLM.out]
        have T5 : Hid (Ts w (w5.setCell ⟨x, 6, none⟩ (.slice a5 (k + 1) cap5)) x (.slice a5 (k + 1) cap5) ms2) := t5.set
        clear t5 t0 q6 qa
        go_wp2_with fail
        exact ⟨⟨k + 1, a5, cap5, by omega, by go_num, by rw [HM2.out]; exact T5⟩, by simp [intOf]; omega⟩
    · obtain rfl : k = n := by omega
      have HRR := read_req (bys (s.extract (1 + 13 * k) s.size)) (bys_range _) (by rw [bys_length, ext_size]; omega) wr
      have e3 : bys (s.extract (1 + 13 * k) s.size) = tbZ (bys s) := by rw [HM.out.2.1, bys_ext, ← HL.out, List.take_length]
      rw [str_bys, e3] at HRR
      clear e3
      obtain ⟨zs, HZS⟩ : ∃ zs, Hid (tbZ (bys s) = zs) := ⟨_, rfl⟩
      rw [HZS.out] at HRR HM
      obtain ⟨ms, HMS⟩ : ∃ ms, Hid (bL ((bys s).drop 1) k = ms) := ⟨_, rfl⟩
      have HLM : Hid (ms.length = k) := by show _ = _; rw [← HMS.out]; exact bL_len _ _
      rw [HMS.out] at HT HM
      obtain ⟨ok, HOK⟩ : ∃ ok, Hid (qOK zs = ok) := ⟨_, rfl⟩
      rw [HOK.out] at HRR HM
      go_wp2_with fail
      refine HRR.mono ?_
      rintro e w3 ⟨⟨c, st, kk, l, nm, rfl, hq, hsz⟩, b3⟩
      have HQ : Hid (ok = true → c = rqC zs ∧ st = rqS zs ∧ kk = rqK zs ∧ l = rqL zs ∧ nm = rqN zs) := hq
      have HSZ : Hid (∀ _ : Unit, nm.size ≤ maxLen) := fun _ => hsz
      have T3 : Hid (Ts w (w3.alloc (.cells #[.int .i64 c, .int .i64 st, .int .i64 kk, .int .i64 l, .string nm] 32)) x (.slice ap k cp) ms) := (HT.out.below b3).alloc _
      clear hq hsz HRR HT b3
      go_upto_region 15 with fail
      have R4 : Hid ((w3.alloc (.cells #[.int .i64 c, .int .i64 st, .int .i64 kk, .int .i64 l, .string nm] 32)).heap[w3.heap.size]? = some (.cells #[.int .i64 c, .int .i64 st, .int .i64 kk, .int .i64 l, .string nm] 32 (0, 0))) := heap_alloc_new w3 _
      generalize w3.alloc (.cells #[.int .i64 c, .int .i64 st, .int .i64 kk, .int .i64 l, .string nm] 32) = w4 at T3 R4 ⊢
      generalize w3.heap.size = y at R4 ⊢
      have r0 := (blk_cell R4.out 0 (x := .int .i64 c) rfl).1
      have r1 := (blk_cell R4.out 1 (x := .int .i64 st) rfl).1
      have r2 := (blk_cell R4.out 2 (x := .int .i64 kk) rfl).1
      have r3 := (blk_cell R4.out 3 (x := .int .i64 l) rfl).1
      have r4 := (blk_cell R4.out 4 (x := .string nm) rfl).1
      obtain ⟨c1, f1⟩ := blk_cell T3.out.hx 1 (x := .int .i64 0) rfl
      obtain ⟨c2, f2⟩ := blk_cell T3.out.hx 2 (x := .int .i64 0) rfl
      obtain ⟨c3, f3⟩ := blk_cell T3.out.hx 3 (x := .int .i64 0) rfl
      obtain ⟨c4, f4⟩ := blk_cell T3.out.hx 4 (x := .int .i64 0) rfl
      obtain ⟨c5, f5⟩ := blk_cell T3.out.hx 5 (x := .string ⟨#[]⟩) rfl
      have hxs := T3.out.lt
      have X9 : Hid ((((((w4.setCell ⟨x, 1, none⟩ (.int .i64 c)).setCell ⟨x, 2, none⟩ (.int .i64 st)).setCell ⟨x, 3, none⟩ (.int .i64 kk)).setCell ⟨x, 4, none⟩ (.int .i64 l)).setCell ⟨x, 5, none⟩ (.string nm)).heap[x]? = some (.cells #[.bool false, .int .i64 c, .int .i64 st, .int .i64 kk, .int .i64 l, .string nm, .slice ap k cp] 35 (0, 0)) ∧ (((((w4.setCell ⟨x, 1, none⟩ (.int .i64 c)).setCell ⟨x, 2, none⟩ (.int .i64 st)).setCell ⟨x, 3, none⟩ (.int .i64 kk)).setCell ⟨x, 4, none⟩ (.int .i64 l)).setCell ⟨x, 5, none⟩ (.string nm)).heap[w.heap.size]? = some (.cells zbat 35 (0, 0)) ∧ OwnR (((((w4.setCell ⟨x, 1, none⟩ (.int .i64 c)).setCell ⟨x, 2, none⟩ (.int .i64 st)).setCell ⟨x, 3, none⟩ (.int .i64 kk)).setCell ⟨x, 4, none⟩ (.int .i64 l)).setCell ⟨x, 5, none⟩ (.string nm)) (w.heap.size + 1) (.slice ap k cp) ms ∧ Below w.heap.size w (((((w4.setCell ⟨x, 1, none⟩ (.int .i64 c)).setCell ⟨x, 2, none⟩ (.int .i64 st)).setCell ⟨x, 3, none⟩ (.int .i64 kk)).setCell ⟨x, 4, none⟩ (.int .i64 l)).setCell ⟨x, 5, none⟩ (.string nm))) := ⟨(blk_set (blk_set (blk_set (blk_set (blk_set T3.out.hx 1 (.int .i64 c)) 2 (.int .i64 st)) 3 (.int .i64 kk)) 4 (.int .i64 l)) 5 (.string nm)), ((blk_far (by omega) 5 (.string nm)).trans ((blk_far (by omega) 4 (.int .i64 l)).trans ((blk_far (by omega) 3 (.int .i64 kk)).trans ((blk_far (by omega) 2 (.int .i64 st)).trans ((blk_far (by omega) 1 (.int .i64 c)).trans T3.out.ha))))), T3.out.own.kept (fun g hg => by have hgx : g ≠ x := fun e => own_ne T3.out.own T3.out.hx (by rw [hg, e]); exact ((blk_far (hgx) 5 (.string nm)).trans ((blk_far (hgx) 4 (.int .i64 l)).trans ((blk_far (hgx) 3 (.int .i64 kk)).trans ((blk_far (hgx) 2 (.int .i64 st)).trans (blk_far (hgx) 1 (.int .i64 c))))))), (Below.setCell (Below.setCell (Below.setCell (Below.setCell (Below.setCell T3.out.bel (p := ⟨x, 1, none⟩) (by show _ ≤ x; omega) (.int .i64 c)) (p := ⟨x, 2, none⟩) (by show _ ≤ x; omega) (.int .i64 st)) (p := ⟨x, 3, none⟩) (by show _ ≤ x; omega) (.int .i64 kk)) (p := ⟨x, 4, none⟩) (by show _ ≤ x; omega) (.int .i64 l)) (p := ⟨x, 5, none⟩) (by show _ ≤ x; omega) (.string nm))⟩
      go_upto_region 16 with fail
      generalize (((((w4.setCell ⟨x, 1, none⟩ (.int .i64 c)).setCell ⟨x, 2, none⟩ (.int .i64 st)).setCell ⟨x, 3, none⟩ (.int .i64 kk)).setCell ⟨x, 4, none⟩ (.int .i64 l)).setCell ⟨x, 5, none⟩ (.string nm)) = w9 at X9 ⊢
      clear c1 f1 c2 f2 c3 f3 c4 f4 c5 f5 r0 r1 r2 r3 r4 T3 R4
      have X9D : Hid (w9.drew.heap[x]? = some (.cells #[.bool false, .int .i64 c, .int .i64 st, .int .i64 kk, .int .i64 l, .string nm, .slice ap k cp] 35 (0, 0)) ∧ w9.drew.heap[w.heap.size]? = some (.cells zbat 35 (0, 0)) ∧ OwnR w9.drew (w.heap.size + 1) (.slice ap k cp) ms ∧ Below w.heap.size w w9.drew) := ⟨X9.out.1, X9.out.2.1, X9.out.2.2.1, X9.out.2.2.2.drew⟩
      have xx0 := (blk_cell X9.out.1 0 (x := .bool false) rfl).1
      have xx1 := (blk_cell X9.out.1 1 (x := .int .i64 c) rfl).1
      have xx2 := (blk_cell X9.out.1 2 (x := .int .i64 st) rfl).1
      have xx3 := (blk_cell X9.out.1 3 (x := .int .i64 kk) rfl).1
      have xx4 := (blk_cell X9.out.1 4 (x := .int .i64 l) rfl).1
      have xx5 := (blk_cell X9.out.1 5 (x := .string nm) rfl).1
      have xx6 := (blk_cell X9.out.1 6 (x := .slice ap k cp) rfl).1
      obtain ⟨yy0, zz0⟩ := blk_cell X9.out.2.1 0 (x := .bool false) rfl
      obtain ⟨yy1, zz1⟩ := blk_cell X9.out.2.1 1 (x := .int .i64 0) rfl
      obtain ⟨yy2, zz2⟩ := blk_cell X9.out.2.1 2 (x := .int .i64 0) rfl
      obtain ⟨yy3, zz3⟩ := blk_cell X9.out.2.1 3 (x := .int .i64 0) rfl
      obtain ⟨yy4, zz4⟩ := blk_cell X9.out.2.1 4 (x := .int .i64 0) rfl
      obtain ⟨yy5, zz5⟩ := blk_cell X9.out.2.1 5 (x := .string ⟨#[]⟩) rfl
      obtain ⟨yy6, zz6⟩ := blk_cell X9.out.2.1 6 (x := .slice none 0 0) rfl
      have HLL : Hid (ms.length ≤ 1048576) := by show _ ≤ _; rw [HLM.out]; omega
      clear HRD HL HA hnn hfew hfew' hb hz hz2 hpos hne hs hk hlt hi0 hz0 hz1 hz2' HZS HMS HOK
      cases ok with
      | false =>
        have HN : Hid (rbOK (bys s) = false) := by show _ = _; rw [HM.out.1]; rfl
        go_region_law (fail)
        all_goals try go_simp
        all_goals
          have AF : (((((((w9.setCell ⟨w.heap.size, 0, none⟩ (.bool false)).setCell ⟨w.heap.size, 1, none⟩ (.int .i64 c)).setCell ⟨w.heap.size, 2, none⟩ (.int .i64 st)).setCell ⟨w.heap.size, 3, none⟩ (.int .i64 kk)).setCell ⟨w.heap.size, 4, none⟩ (.int .i64 l)).setCell ⟨w.heap.size, 5, none⟩ (.string nm)).setCell ⟨w.heap.size, 6, none⟩ (.slice ap k cp)).heap[w.heap.size]? = some (.cells #[.bool false, .int .i64 c, .int .i64 st, .int .i64 kk, .int .i64 l, .string nm, .slice ap k cp] 35 (0, 0)) := (blk_set (blk_set (blk_set (blk_set (blk_set (blk_set (blk_set X9.out.2.1 0 (.bool false)) 1 (.int .i64 c)) 2 (.int .i64 st)) 3 (.int .i64 kk)) 4 (.int .i64 l)) 5 (.string nm)) 6 (.slice ap k cp))
          have OF : Hid (OwnR (((((((w9.setCell ⟨w.heap.size, 0, none⟩ (.bool false)).setCell ⟨w.heap.size, 1, none⟩ (.int .i64 c)).setCell ⟨w.heap.size, 2, none⟩ (.int .i64 st)).setCell ⟨w.heap.size, 3, none⟩ (.int .i64 kk)).setCell ⟨w.heap.size, 4, none⟩ (.int .i64 l)).setCell ⟨w.heap.size, 5, none⟩ (.string nm)).setCell ⟨w.heap.size, 6, none⟩ (.slice ap k cp)) w.heap.size (.slice ap k cp) ms ∧ Below w.heap.size w (((((((w9.setCell ⟨w.heap.size, 0, none⟩ (.bool false)).setCell ⟨w.heap.size, 1, none⟩ (.int .i64 c)).setCell ⟨w.heap.size, 2, none⟩ (.int .i64 st)).setCell ⟨w.heap.size, 3, none⟩ (.int .i64 kk)).setCell ⟨w.heap.size, 4, none⟩ (.int .i64 l)).setCell ⟨w.heap.size, 5, none⟩ (.string nm)).setCell ⟨w.heap.size, 6, none⟩ (.slice ap k cp))) := ⟨(X9.out.2.2.1.mono (by omega)).kept (fun g hg => by have := (X9.out.2.2.1.lt g hg).1; exact ((blk_far (by omega) 6 (.slice ap k cp)).trans ((blk_far (by omega) 5 (.string nm)).trans ((blk_far (by omega) 4 (.int .i64 l)).trans ((blk_far (by omega) 3 (.int .i64 kk)).trans ((blk_far (by omega) 2 (.int .i64 st)).trans ((blk_far (by omega) 1 (.int .i64 c)).trans (blk_far (by omega) 0 (.bool false))))))))), (Below.setCell (Below.setCell (Below.setCell (Below.setCell (Below.setCell (Below.setCell (Below.setCell X9.out.2.2.2 (p := ⟨w.heap.size, 0, none⟩) (Nat.le_refl _) (.bool false)) (p := ⟨w.heap.size, 1, none⟩) (Nat.le_refl _) (.int .i64 c)) (p := ⟨w.heap.size, 2, none⟩) (Nat.le_refl _) (.int .i64 st)) (p := ⟨w.heap.size, 3, none⟩) (Nat.le_refl _) (.int .i64 kk)) (p := ⟨w.heap.size, 4, none⟩) (Nat.le_refl _) (.int .i64 l)) (p := ⟨w.heap.size, 5, none⟩) (Nat.le_refl _) (.string nm)) (p := ⟨w.heap.size, 6, none⟩) (Nat.le_refl _) (.slice ap k cp))⟩
          go_wp2_with fail
          generalize (((((((w9.setCell ⟨w.heap.size, 0, none⟩ (.bool false)).setCell ⟨w.heap.size, 1, none⟩ (.int .i64 c)).setCell ⟨w.heap.size, 2, none⟩ (.int .i64 st)).setCell ⟨w.heap.size, 3, none⟩ (.int .i64 kk)).setCell ⟨w.heap.size, 4, none⟩ (.int .i64 l)).setCell ⟨w.heap.size, 5, none⟩ (.string nm)).setCell ⟨w.heap.size, 6, none⟩ (.slice ap k cp)) = wf at AF OF ⊢
          have d0 := (blk_cell AF 0 (x := .bool false) rfl).1
          have d1 := (blk_cell AF 1 (x := .int .i64 c) rfl).1
          have d2 := (blk_cell AF 2 (x := .int .i64 st) rfl).1
          have d3 := (blk_cell AF 3 (x := .int .i64 kk) rfl).1
          have d4 := (blk_cell AF 4 (x := .int .i64 l) rfl).1
          have d5 := (blk_cell AF 5 (x := .string nm) rfl).1
          have d6 := (blk_cell AF 6 (x := .slice ap k cp) rfl).1
          refine bodyPost_ret (v := .tuple #[.agg #[.bool false, .int .i64 c, .int .i64 st, .int .i64 kk, .int .i64 l, .string nm, .slice ap k cp], .bool false]) (by simp [results, Try.results12, go_sem, d0, d1, d2, d3, d4, d5, d6]) rfl ?_
          refine ⟨⟨false, c, st, kk, l, nm, ms⟩, (.slice ap k cp), ?_, ?_, ?_, OF.out.2.drew⟩
          · dsimp only [bV, batV]
            rw [HN.out]
          · intro h
            rw [HN.out] at h
            cases h
          · dsimp only
            exact OF.out.1
      | true =>
        obtain ⟨q1, q2, q3, q4, q5⟩ := HQ.out rfl
        have HN : Hid (rbOK (bys s) = bOK false c st kk l nm ms ∧ tbX (bys s) = ⟨false, c, st, kk, l, nm, ms⟩) := by
          have h3 := HM.out.2.2
          rw [← q1, ← q2, ← q3, ← q4, ← q5] at h3
          refine ⟨?_, h3⟩
          rw [HM.out.1, h3]
          rfl
        clear q1 q2 q3 q4 q5 HQ HM
        obtain ⟨bo, HBO⟩ : ∃ bo, Hid (bOK false c st kk l nm ms = bo) := ⟨_, rfl⟩
        have HBC : Hid (∀ W, Row W (.slice ap k cp) ms → Calls Try.prog 16 #[.agg #[.bool false, .int .i64 c, .int .i64 st, .int .i64 kk, .int .i64 l, .string nm, .slice ap k cp]] W fun e w' => e = .returned (.bool bo) ∧ Below W.heap.size W w') := fun W hW => by
          have := l02BatchOK_any false c st kk l nm (.slice ap k cp) ms W hW HLL.out (HSZ.out ())
          rw [HBO.out] at this
          exact this
        rw [HBO.out] at HN
        go_region_law
          (first | (go_simp; go_at_call 16; (with_reducible refine (HBC.out _ X9D.out.2.2.1.row).mono ?_); rintro e w6 ⟨rfl, b6⟩; have A6 := (b6.block w.heap.size (Array.getElem?_eq_some_iff.1 X9D.out.2.1).1).trans X9D.out.2.1; have X6 := (b6.block x (Array.getElem?_eq_some_iff.1 X9D.out.1).1).trans X9D.out.1; have G6 : Below w.heap.size w w6 := X9D.out.2.2.2.trans (b6.mono X9D.out.2.2.2.size); have O6 : OwnR w6 (w.heap.size + 1) (.slice ap k cp) ms := X9D.out.2.2.1.below b6; clear b6; obtain ⟨zc0, zf0⟩ := blk_cell A6 0 (x := .bool false) rfl; obtain ⟨zc1, zf1⟩ := blk_cell A6 1 (x := .int .i64 0) rfl; obtain ⟨zc2, zf2⟩ := blk_cell A6 2 (x := .int .i64 0) rfl; obtain ⟨zc3, zf3⟩ := blk_cell A6 3 (x := .int .i64 0) rfl; obtain ⟨zc4, zf4⟩ := blk_cell A6 4 (x := .int .i64 0) rfl; obtain ⟨zc5, zf5⟩ := blk_cell A6 5 (x := .string ⟨#[]⟩) rfl; obtain ⟨zc6, zf6⟩ := blk_cell A6 6 (x := .slice none 0 0) rfl; have yc0 := (blk_cell X6 0 (x := .bool false) rfl).1; have yc1 := (blk_cell X6 1 (x := .int .i64 c) rfl).1; have yc2 := (blk_cell X6 2 (x := .int .i64 st) rfl).1; have yc3 := (blk_cell X6 3 (x := .int .i64 kk) rfl).1; have yc4 := (blk_cell X6 4 (x := .int .i64 l) rfl).1; have yc5 := (blk_cell X6 5 (x := .string nm) rfl).1; have yc6 := (blk_cell X6 6 (x := .slice ap k cp) rfl).1; try go_simp))
        all_goals
          have AF : (((((((w6.setCell ⟨w.heap.size, 0, none⟩ (.bool false)).setCell ⟨w.heap.size, 1, none⟩ (.int .i64 c)).setCell ⟨w.heap.size, 2, none⟩ (.int .i64 st)).setCell ⟨w.heap.size, 3, none⟩ (.int .i64 kk)).setCell ⟨w.heap.size, 4, none⟩ (.int .i64 l)).setCell ⟨w.heap.size, 5, none⟩ (.string nm)).setCell ⟨w.heap.size, 6, none⟩ (.slice ap k cp)).heap[w.heap.size]? = some (.cells #[.bool false, .int .i64 c, .int .i64 st, .int .i64 kk, .int .i64 l, .string nm, .slice ap k cp] 35 (0, 0)) := (blk_set (blk_set (blk_set (blk_set (blk_set (blk_set (blk_set A6 0 (.bool false)) 1 (.int .i64 c)) 2 (.int .i64 st)) 3 (.int .i64 kk)) 4 (.int .i64 l)) 5 (.string nm)) 6 (.slice ap k cp))
          have OF : Hid (OwnR (((((((w6.setCell ⟨w.heap.size, 0, none⟩ (.bool false)).setCell ⟨w.heap.size, 1, none⟩ (.int .i64 c)).setCell ⟨w.heap.size, 2, none⟩ (.int .i64 st)).setCell ⟨w.heap.size, 3, none⟩ (.int .i64 kk)).setCell ⟨w.heap.size, 4, none⟩ (.int .i64 l)).setCell ⟨w.heap.size, 5, none⟩ (.string nm)).setCell ⟨w.heap.size, 6, none⟩ (.slice ap k cp)) w.heap.size (.slice ap k cp) ms ∧ Below w.heap.size w (((((((w6.setCell ⟨w.heap.size, 0, none⟩ (.bool false)).setCell ⟨w.heap.size, 1, none⟩ (.int .i64 c)).setCell ⟨w.heap.size, 2, none⟩ (.int .i64 st)).setCell ⟨w.heap.size, 3, none⟩ (.int .i64 kk)).setCell ⟨w.heap.size, 4, none⟩ (.int .i64 l)).setCell ⟨w.heap.size, 5, none⟩ (.string nm)).setCell ⟨w.heap.size, 6, none⟩ (.slice ap k cp))) := ⟨(O6.mono (by omega)).kept (fun g hg => by have := (O6.lt g hg).1; exact ((blk_far (by omega) 6 (.slice ap k cp)).trans ((blk_far (by omega) 5 (.string nm)).trans ((blk_far (by omega) 4 (.int .i64 l)).trans ((blk_far (by omega) 3 (.int .i64 kk)).trans ((blk_far (by omega) 2 (.int .i64 st)).trans ((blk_far (by omega) 1 (.int .i64 c)).trans (blk_far (by omega) 0 (.bool false))))))))), (Below.setCell (Below.setCell (Below.setCell (Below.setCell (Below.setCell (Below.setCell (Below.setCell G6 (p := ⟨w.heap.size, 0, none⟩) (Nat.le_refl _) (.bool false)) (p := ⟨w.heap.size, 1, none⟩) (Nat.le_refl _) (.int .i64 c)) (p := ⟨w.heap.size, 2, none⟩) (Nat.le_refl _) (.int .i64 st)) (p := ⟨w.heap.size, 3, none⟩) (Nat.le_refl _) (.int .i64 kk)) (p := ⟨w.heap.size, 4, none⟩) (Nat.le_refl _) (.int .i64 l)) (p := ⟨w.heap.size, 5, none⟩) (Nat.le_refl _) (.string nm)) (p := ⟨w.heap.size, 6, none⟩) (Nat.le_refl _) (.slice ap k cp))⟩
          go_wp2_with fail
          generalize (((((((w6.setCell ⟨w.heap.size, 0, none⟩ (.bool false)).setCell ⟨w.heap.size, 1, none⟩ (.int .i64 c)).setCell ⟨w.heap.size, 2, none⟩ (.int .i64 st)).setCell ⟨w.heap.size, 3, none⟩ (.int .i64 kk)).setCell ⟨w.heap.size, 4, none⟩ (.int .i64 l)).setCell ⟨w.heap.size, 5, none⟩ (.string nm)).setCell ⟨w.heap.size, 6, none⟩ (.slice ap k cp)) = wf at AF OF ⊢
          have d0 := (blk_cell AF 0 (x := .bool false) rfl).1
          have d1 := (blk_cell AF 1 (x := .int .i64 c) rfl).1
          have d2 := (blk_cell AF 2 (x := .int .i64 st) rfl).1
          have d3 := (blk_cell AF 3 (x := .int .i64 kk) rfl).1
          have d4 := (blk_cell AF 4 (x := .int .i64 l) rfl).1
          have d5 := (blk_cell AF 5 (x := .string nm) rfl).1
          have d6 := (blk_cell AF 6 (x := .slice ap k cp) rfl).1
          refine bodyPost_ret (v := .tuple #[.agg #[.bool false, .int .i64 c, .int .i64 st, .int .i64 kk, .int .i64 l, .string nm, .slice ap k cp], .bool bo]) (by simp [results, Try.results12, go_sem, d0, d1, d2, d3, d4, d5, d6]) rfl ?_
          refine ⟨⟨false, c, st, kk, l, nm, ms⟩, (.slice ap k cp), ?_, fun _ => HN.out.2.symm, ?_, OF.out.2⟩
          · dsimp only [bV, batV]
            rw [HN.out.1]
          · dsimp only
            exact OF.out.1
end Go.Proofs.Ytkmnjnblacmjlaa.Tkb
