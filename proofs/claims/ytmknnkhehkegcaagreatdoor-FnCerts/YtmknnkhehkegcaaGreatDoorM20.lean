/- Texts put together: Dd, De, Df, Nq, Dg8. -/
import Derived.Test.YtmknnkhehkegcaaGreatDoorM18
import Derived.Test.YtmknnkhehkegcaaGreatDoorM19
import Derived.Test.YtmknnkhehkegcaaGreatDoorM16
import Derived.Test.YtmknnkhehkegcaaGreatDoorM2
import Derived.Test.YtmknnkhehkegcaaGreatDoorM3
import Derived.Laws.StructEq
/- Drawn certificates. -/
namespace Go.Proofs.YtmknnkhehkegcaaGreatDoor.Dc
open Go.RowKit Go.Proofs.YtmknnkhehkegcaaGreatDoor.Sl Go.Proofs.YtmknnkhehkegcaaGreatDoor.By Go.Proofs.YtmknnkhehkegcaaGreatDoor.Ap Go.Proofs.YtmknnkhehkegcaaGreatDoor.Rr Go.Proofs.YtmknnkhehkegcaaGreatDoor.Gn
open Go.Proofs.YtmknnkhehkegcaaGreatDoor.Gm (Mg Row)
open Go.Proofs.YtmknnkhehkegcaaGreatDoor.Tm (fCode fOut)
open Go.Proofs.YtmknnkhehkegcaaGreatDoor.Vt (crtB q_pos)
open Go.Proofs.YtmknnkhehkegcaaGreatDoor.Bd (dig l06Digest_any)
open Go.Proofs.YtmknnkhehkegcaaGreatDoor.Bw (bdP)
open Go.Proofs.YtmknnkhehkegcaaGreatDoor.Qm (qOut l06Quorum_any)
open Go.Proofs.YtmknnkhehkegcaaGreatDoor.Tkb (OwnR OwnR.row)
open Go.Proofs.YtmknnkhehkegcaaGreatDoor.Cb (crtV mOK)
open Go.Proofs.YtmknnkhehkegcaaGreatDoor.Rc (OwnM OwnM.row OwnM.kept OwnM.lt OwnM.below OwnM.mono OwnM.made cl cl_one info_m)
open Go.Proofs.YtmknnkhehkegcaaGreatDoor.Si (mmk l06Sign_any)
open Go.Proofs.YtmknnkhehkegcaaGreatDoor.Rg (RowG.slice lt_at mem_at bel_new)

theorem n_of {n f : Nat} (hn : n = 3 * f + 1) (hf : f ≤ 2) : fCode (n : Int) = 0 ∧ fOut (n : Int) = f ∧ qOut (n : Int) = 2 * (f : Int) + 1 := by
  have : f = 0 ∨ f = 1 ∨ f = 2 := by omega
  rcases this with rfl | rfl | rfl <;> subst hn <;> exact ⟨rfl, rfl, rfl⟩
theorem bel_grown {w w' : World} {p : Nat} (b : Below w.heap.size w w') : w.grownBy w' (some p) := ⟨b.os, b.tape, b.output, b.size, fun k hk _ => b.block k hk⟩
theorem src_bel {B p K : Nat} {w w' : World} {xs : List Int} (h : Gn.Src B w p xs K) (hB : B ≤ p) (b : Below w.heap.size w w') : Gn.Src B w' p xs K := h.kept (b.block p h.lt) (fun k hk => b.block k (by have := h.lt; omega))
set_option maxRecDepth 100000 in
set_option maxHeartbeats 1600000 in
theorem body_any (n f p B K : Nat) (xs : List Int) (w : World) (h : Gn.Src B w p xs K) (hB : B ≤ p) (hK : K ≤ 100000) (hx : xs.length ≤ 1048576) (hn : n = 3 * f + 1) (hf : f ≤ 2) :
    Calls Tryz.prog 28 #[.pointer (some ⟨p, 0, none⟩), .int .i64 n] w fun e w' => ∃ s, e = .returned (.string s) ∧ bdP n s = true ∧ Gn.Src B w' p xs (K + 15) ∧ w.grownBy w' (some p) := by
  obtain ⟨hf0, hf1, _⟩ := n_of hn hf
  have HN : Hid (∀ _ : Unit, n = 3 * f + 1) := fun _ => hn
  have HS : Hid (Gn.Src B w p xs K) := h
  have HFF : Hid (fCode (n : Int) = 0 ∧ fOut (n : Int) = f) := ⟨hf0, hf1⟩
  clear hn h hf0 hf1
  go_enter Tryz.func28, Tryz.ntmps28
  go_wp2_with fail
  refine (chance_any 6 p B K xs _ HS.out hB (by omega) hx (by decide) (by decide)).mono ?_
  rintro e w1 ⟨b, rfl, s1, g1⟩
  have S1 : Hid (Gn.Src B w1 p xs (K + 1) ∧ w.grownBy w1 (some p)) := ⟨s1, g1⟩
  clear s1 g1
  cases b with
  | true =>
    have HE : Hid (bdP n ⟨#[0]⟩ = true ∧ Gn.Src B w1 p xs (K + 15)) := ⟨body_null n, S1.out.1.le (by omega)⟩
    go_wp2_with fail
    go_ret
    exact ⟨_, rfl, HE.out.1, HE.out.2, S1.out.2⟩
  | false =>
    go_wp2_with fail
    refine (request_any p B (K + 1) xs _ S1.out.1 hB (by omega) hx).mono ?_
    rintro e w2 ⟨c, st, k, l, nm, rfl, hq, s2, g2⟩
    have S2 : Hid (Gn.Src B w2 p xs (K + 1 + 5) ∧ w.grownBy w2 (some p)) := ⟨s2, grown_trans S1.out.2 g2⟩
    have HQ : Hid (Rq.reqB c st k l nm = true) := hq
    clear s2 g2 S1 hq
    go_wp2_with fail
    refine (Ag.readings_any n f p B (K + 1 + 5) xs _ S2.out.1 hB (by omega) hx (HN.out ()) hf).mono ?_
    rintro e w3 ⟨v3, us, rfl, o3, hl, hfi, s3, g3⟩
    have S3 : Hid (Gn.Src B w3 p xs (K + 1 + 5 + 9) ∧ w.grownBy w3 (some p)) := ⟨s3, grown_trans S2.out.2 g3⟩
    obtain ⟨hbd, hbk⟩ := body_ok HFF.out.1 HQ.out hfi (by rw [HFF.out.2]; omega)
    obtain ⟨p1, p2, p3, _, _⟩ := Bt.bOK_parts hbk
    have HB := Bt.l02Batch_any false c st k l nm v3 us w3 (OwnR.row o3) p2 p3 p1
    have HBD : Hid (bdP n (strOfNums (Bt.batBs false c st k l nm us)) = true) := hbd
    have HBR : Hid (∀ z ∈ Bt.batBs false c st k l nm us, 0 ≤ z ∧ z ≤ 255) := Bt.batBs_range _ _ _ _ _ _ _
    obtain ⟨ra, rcap, rfl⟩ := RowG.slice (OwnR.row o3)
    generalize Bt.batBs false c st k l nm us = bs at HB HBD HBR
    unfold Bo.batV at HB
    clear o3 hl hfi s3 g3 S2 hbd hbk p1 p2 p3
    go_wp2_with fail
    refine HB.mono ?_
    rintro e w4 ⟨v4, rfl, o4, b4⟩
    have hc := run_convert_row (P := Tryz.prog) w4 w4.heap.size 22 5 9 Tryz.underlying22 Tryz.underlying5 Tryz.underlying9 v4 bs (RowU.of (own_rowB o4 HBR.out))
    have S4 : Hid (Gn.Src B w4 p xs (K + 15) ∧ w.grownBy w4 (some p)) := ⟨(src_bel S3.out.1 hB b4).le (by omega), grown_trans S3.out.2 (bel_grown b4)⟩
    clear o4 b4 HB
    go_wp2_with fail
    go_ret
    exact ⟨_, rfl, HBD.out, S4.out.1, S4.out.2⟩
end Go.Proofs.YtmknnkhehkegcaaGreatDoor.Dc

/- Drawn certificates: the walk. -/
namespace Go.Proofs.YtmknnkhehkegcaaGreatDoor.Dc
open Go.RowKit Go.Proofs.YtmknnkhehkegcaaGreatDoor.Sl Go.Proofs.YtmknnkhehkegcaaGreatDoor.By Go.Proofs.YtmknnkhehkegcaaGreatDoor.Ap Go.Proofs.YtmknnkhehkegcaaGreatDoor.Rr Go.Proofs.YtmknnkhehkegcaaGreatDoor.Gn
open Go.Proofs.YtmknnkhehkegcaaGreatDoor.Gm (Mg Row)
open Go.Proofs.YtmknnkhehkegcaaGreatDoor.Tm (fCode fOut)
open Go.Proofs.YtmknnkhehkegcaaGreatDoor.Vt (crtB q_pos)
open Go.Proofs.YtmknnkhehkegcaaGreatDoor.Bd (dig l06Digest_any)
open Go.Proofs.YtmknnkhehkegcaaGreatDoor.Bw (bdP)
open Go.Proofs.YtmknnkhehkegcaaGreatDoor.Qm (qOut l06Quorum_any)
open Go.Proofs.YtmknnkhehkegcaaGreatDoor.Cb (crtV mOK)
open Go.Proofs.YtmknnkhehkegcaaGreatDoor.Rc (OwnM OwnM.row OwnM.kept OwnM.lt OwnM.below OwnM.mono OwnM.made OwnM.alloc cl cl_one info_m)
open Go.Proofs.YtmknnkhehkegcaaGreatDoor.Si (mmk l06Sign_any)
open Go.Proofs.YtmknnkhehkegcaaGreatDoor.Rg (RowG.slice lt_at mem_at bel_new size_new)

theorem ownm_ne {w : World} {B x : Nat} {v : Value} {ms : List Mg} {cs : Array Value} (h : OwnM w B v ms) (hx : w.heap[x]? = some (.cells cs 27 (0, 0))) : some x ≠ v.ownBlock := by
  intro e
  obtain ⟨_, h | ⟨g', cap', cur, he, _, hgg, _⟩⟩ := h
  · rw [h.1] at e; simp [Value.ownBlock] at e
  · rw [he] at e
    simp [Value.ownBlock] at e
    subst e
    rw [hx] at hgg
    simp at hgg
theorem ownm_kept {w w' : World} {B p : Nat} {v : Value} {ms : List Mg} (h : OwnM w B v ms) (hg : w.grownBy w' (some p)) (hp : p < B) : OwnM w' B v ms :=
  h.kept fun g hb => hg.block g (h.lt g hb).2 (fun e => by have := (h.lt g hb).1; simp at e; omega)
theorem ownm_set {w : World} {B b : Nat} {v : Value} {ms : List Mg} (h : OwnM w B v ms) (hb : b < B) (i : Nat) (x : Value) : OwnM (w.setCell ⟨b, i, none⟩ x) B v ms :=
  h.kept fun g hg => blk_far (by have := (h.lt g hg).1; omega) i x
/-- While a certificate is drawn: its box x, the answer's box, the prepares so far (in blocks from y on), the source. -/
structure Dq (w w' : World) (p B x y : Nat) (bd : ByteArray) (v : Value) (ms : List Mg) (xs : List Int) (K : Nat) : Prop where
  hx : w'.heap[x]? = some (.cells #[.string bd, v] 27 (0, 0))
  ha : w'.heap[w.heap.size]? = some (.cells #[.string ⟨#[]⟩, .slice none 0 0] 27 (0, 0))
  own : OwnM w' y v ms
  rd : Gn.Src B w' p xs K
  gr : w.grownBy w' (some p)
  lt : w.heap.size < x ∧ w.heap.size < y ∧ y ≤ x ∧ p < w.heap.size ∧ B ≤ p
theorem Dq.drew {w w' : World} {p B x y : Nat} {bd : ByteArray} {v : Value} {ms : List Mg} {xs : List Int} {K : Nat} (h : Dq w w' p B x y bd v ms xs K) : Dq w w'.drew p B x y bd v ms xs K :=
  ⟨h.hx, h.ha, h.own, h.rd, ⟨h.gr.os, h.gr.tape, h.gr.output, h.gr.size, h.gr.block⟩, h.lt⟩
theorem Dq.grown {w w' w2 : World} {p B x y : Nat} {bd : ByteArray} {v : Value} {ms : List Mg} {xs : List Int} {K K2 : Nat} (h : Dq w w' p B x y bd v ms xs K) (hg : w'.grownBy w2 (some p)) (hr : Gn.Src B w2 p xs K2) : Dq w w2 p B x y bd v ms xs K2 :=
  ⟨blk_kept h.hx hg (by have := h.lt; omega), blk_kept h.ha hg (by have := h.lt; omega), ownm_kept h.own hg (by have := h.lt; omega), hr, grown_trans h.gr hg, h.lt⟩
theorem Dq.below {w w' w2 : World} {p B x y : Nat} {bd : ByteArray} {v : Value} {ms : List Mg} {xs : List Int} {K : Nat} (h : Dq w w' p B x y bd v ms xs K) (hb : Below w'.heap.size w' w2) : Dq w w2 p B x y bd v ms xs K :=
  h.grown ⟨hb.os, hb.tape, hb.output, hb.size, fun k hk _ => hb.block k hk⟩ (h.rd.kept (hb.block p h.rd.lt) (fun k hk => hb.block k (by have := h.rd.lt; have := h.lt; omega)))
theorem Dq.alloc {w w' : World} {p B x y : Nat} {bd : ByteArray} {v : Value} {ms : List Mg} {xs : List Int} {K : Nat} (h : Dq w w' p B x y bd v ms xs K) (o : Obj) : Dq w (w'.alloc o) p B x y bd v ms xs K :=
  h.below (bel_new _ _)
theorem Dq.c0 {w w' : World} {p B x y : Nat} {bd : ByteArray} {v : Value} {ms : List Mg} {xs : List Int} {K : Nat} (h : Dq w w' p B x y bd v ms xs K) : w'.cell? ⟨x, 0, none⟩ = some (.string bd) := (blk_cell h.hx 0 (x := .string bd) rfl).1
theorem Dq.c1 {w w' : World} {p B x y : Nat} {bd : ByteArray} {v : Value} {ms : List Mg} {xs : List Int} {K : Nat} (h : Dq w w' p B x y bd v ms xs K) : w'.cell? ⟨x, 1, none⟩ = some v := (blk_cell h.hx 1 (x := v) rfl).1
structure Dr (w w' : World) (p B x y : Nat) (bd : ByteArray) (v v' : Value) (ms : List Mg) (xs : List Int) (K : Nat) : Prop where
  hx : w'.heap[x]? = some (.cells #[.string bd, v] 27 (0, 0))
  ha : w'.heap[w.heap.size]? = some (.cells #[.string ⟨#[]⟩, .slice none 0 0] 27 (0, 0))
  own : OwnM w' y v' ms
  rd : Gn.Src B w' p xs K
  gr : w.grownBy w' (some p)
  lt : w.heap.size < x ∧ w.heap.size < y ∧ y ≤ x ∧ p < w.heap.size ∧ B ≤ p
theorem Dr.c1 {w w' : World} {p B x y : Nat} {bd : ByteArray} {v v' : Value} {ms : List Mg} {xs : List Int} {K : Nat} (h : Dr w w' p B x y bd v v' ms xs K) : w'.cell? ⟨x, 1, none⟩ = some v ∧ w'.frozen? ⟨x, 1, none⟩ = false := blk_cell h.hx 1 (x := v) rfl
theorem Dr.c0 {w w' : World} {p B x y : Nat} {bd : ByteArray} {v v' : Value} {ms : List Mg} {xs : List Int} {K : Nat} (h : Dr w w' p B x y bd v v' ms xs K) : w'.cell? ⟨x, 0, none⟩ = some (.string bd) := (blk_cell h.hx 0 (x := .string bd) rfl).1
theorem Dr.set {w w' : World} {p B x y : Nat} {bd : ByteArray} {v v' : Value} {ms : List Mg} {xs : List Int} {K : Nat} (h : Dr w w' p B x y bd v v' ms xs K) : Dq w (w'.setCell ⟨x, 1, none⟩ v') p B x y bd v' ms xs K :=
  ⟨blk_set h.hx 1 v', (blk_far (by have := h.lt; omega) 1 v').trans h.ha, h.own.kept (fun g hg => blk_far (fun e => ownm_ne h.own h.hx (by rw [hg, e])) 1 v'), Gn.Src.set h.rd (by have := h.lt; omega) (by have := h.lt; omega) 1 v', grown_new h.gr (by have := h.lt; omega) 1 v', h.lt⟩
theorem step_dq {P : Program} {ops : Array Oper} {o : Oper} {a : Act} {K : Act → World → Prop} {Q : Exit → Act → World → Prop} {E : Prop} {i : TypeInfo} (hgd : o.guard = none) (s z : Operand) (t : TypeId) (ho : o.op = .call { callee := .builtin .append, args := #[s, z], argTypes := #[t, t] }) (ht : P.underlying t = some (.slice 39)) (hi : P.info? 39 = some i) (hz : i.zero = some (.agg #[.int .i64 0, .int .i64 0, .int .i64 0, .int .i64 0, .string ⟨#[]⟩, .string ⟨#[]⟩, .string ⟨#[]⟩]))
    (hsize : i.size = 7) (hby : i.bytes = 80) (W w : World) (p B x y : Nat) (bd : ByteArray) (v : Value) (ms : List Mg) (xs : List Int) (K0 : Nat) (m : Mg) (hs : a.eval s = v) (gx : Nat) (hx : a.eval z = .slice (some ⟨gx, 0, none⟩) 1 1) (hbx : W.heap[gx]? = some (.cells #[.int .i64 m.kd, .int .i64 m.vw, .int .i64 m.sq, .int .i64 m.fr, .string m.dg, .string m.bd, .string m.mc] 39 (0, 0)))
    (htb : Dq w W p B x y bd v ms xs K0) (hlen : ms.length ≤ 1000000)
    (h : ∀ v' w', Dr w w' p B x y bd v v' (ms ++ [m]) xs K0 → K (a.put o.dst v') w') : if Region.wanted o (yielded ops a.tmps) = true then Oper.wp P o a W K Q else E := by
  have hw : Region.wanted o (yielded ops a.tmps) = true := by simp [Region.wanted, hgd]
  rw [if_pos hw]
  have hxl := (Array.getElem?_eq_some_iff.1 htb.hx).1
  obtain ⟨v', w', hr, h2, h3, _, h5⟩ := run_append_own_at (P := P) W y t o.type 39 i _ 7 80 ht hi hz hsize hby rfl (by decide) v ms.length _ htb.own ⟨gx, 0, none⟩ 1 1 (cl m) rfl (by
    intro j u hj
    have e2 : (⟨gx, 0, none⟩ : Addr).add j = ⟨gx, j, none⟩ := by unfold Addr.add; split <;> simp_all
    rw [e2, Joins.cell_of_block hbx, ← hj]
    simp [cl]) (cl_one m) (by unfold maxLen; omega) (by have := htb.lt; omega) (by have := htb.lt; omega)
  have far : ∀ k, k < y ∨ k = x → k < W.heap.size → w'.heap[k]? = W.heap[k]? := fun k hk hkl => h3.block k hkl (fun e => by
    rcases hk with hk | rfl
    · have := (htb.own.lt k e.symm).1; omega
    · exact ownm_ne htb.own htb.hx e)
  refine wp_app ho hs hx hr (h v' w' ⟨(far x (.inr rfl) hxl).trans htb.hx, (far _ (.inl (by have := htb.lt; omega)) (Nat.lt_of_lt_of_le htb.lt.1 (Nat.le_of_lt hxl))).trans htb.ha, by unfold OwnM; rw [List.flatMap_append, List.length_append]; simpa using h2, htb.rd.kept (far p (.inl (by have := htb.lt; omega)) htb.rd.lt) (fun k hk => far k (.inl (by have := htb.lt; omega)) (by have := htb.lt; have := htb.rd.lt; omega)), ⟨h3.os.trans htb.gr.os, h3.tape.trans htb.gr.tape, h3.output.trans htb.gr.output, Nat.le_trans htb.gr.size h3.size, fun k hk hn => (far k (.inl (by have := htb.lt; omega)) (Nat.lt_of_lt_of_le hk htb.gr.size)).trans (htb.gr.block k hk hn)⟩, htb.lt⟩)
theorem body_size {n : Int} {s : ByteArray} (h : bdP n s = true) : s.size ≤ 20000 := by
  unfold bdP at h
  rw [Bool.and_eq_true] at h
  exact of_decide_eq_true h.1
theorem dig_size {s : ByteArray} (h : s.size ≤ 20000) : (dig s).size = 32 := by
  unfold dig Sh.hashS
  have hl : (bys Bd.bBt ++ bys s).length = 5 + s.size := by rw [List.length_append, bys_length, bys_length]; rfl
  rw [if_neg (by omega)]
  exact Gn.sha_size _
end Go.Proofs.YtmknnkhehkegcaaGreatDoor.Dc

/- Drawn certificates: the walk. -/
namespace Go.Proofs.YtmknnkhehkegcaaGreatDoor.Dc
open Go.RowKit Go.Proofs.YtmknnkhehkegcaaGreatDoor.Sl Go.Proofs.YtmknnkhehkegcaaGreatDoor.By Go.Proofs.YtmknnkhehkegcaaGreatDoor.Ap Go.Proofs.YtmknnkhehkegcaaGreatDoor.Rr Go.Proofs.YtmknnkhehkegcaaGreatDoor.Gn
open Go.Proofs.YtmknnkhehkegcaaGreatDoor.Gm (Mg Row)
open Go.Proofs.YtmknnkhehkegcaaGreatDoor.Tm (fCode fOut)
open Go.Proofs.YtmknnkhehkegcaaGreatDoor.Vt (crtB q_pos)
open Go.Proofs.YtmknnkhehkegcaaGreatDoor.Bd (dig l06Digest_any)
open Go.Proofs.YtmknnkhehkegcaaGreatDoor.Bw (bdP)
open Go.Proofs.YtmknnkhehkegcaaGreatDoor.Qm (qOut l06Quorum_any)
open Go.Proofs.YtmknnkhehkegcaaGreatDoor.Cb (crtV mOK)
open Go.Proofs.YtmknnkhehkegcaaGreatDoor.Rc (OwnM OwnM.row OwnM.kept OwnM.lt OwnM.below OwnM.mono OwnM.made OwnM.alloc cl cl_one info_m)
open Go.Proofs.YtmknnkhehkegcaaGreatDoor.Si (mmk l06Sign_any)
open Go.Proofs.YtmknnkhehkegcaaGreatDoor.Rg (RowG.slice lt_at mem_at bel_new size_new)

theorem Vs8.le {n vw sq : Int} {d : ByteArray} {i i' : Nat} {ms : List Mg} (h : Vs8 n vw sq d i ms) (hi : i ≤ i') : Vs8 n vw sq d i' ms := ⟨fun x hx => by obtain ⟨j, h1, h2, h3⟩ := h.all x hx; exact ⟨j, h1, by omega, h3⟩, h.rise⟩
set_option maxRecDepth 100000 in
set_option maxHeartbeats 3200000 in
theorem cert_any (n f p B K : Nat) (vw sq : Int) (xs : List Int) (w : World) (h : Gn.Src B w p xs K) (hB : B ≤ p) (hK : K ≤ 50000) (hx : xs.length ≤ 1048576) (hn : n = 3 * f + 1) (hf : f ≤ 2) (hv : 0 ≤ vw ∧ vw ≤ 20) (hs : 1 ≤ sq ∧ sq ≤ 8) :
    Calls Tryz.prog 14 #[.pointer (some ⟨p, 0, none⟩), .int .i64 n, .int .i64 vw, .int .i64 sq] w fun e w' => ∃ bd v ms, e = .returned (.agg #[.string bd, v]) ∧ OwnM w' w.heap.size v ms ∧ bdP n bd = true ∧ ms.length = 2 * f + 1 ∧ Vs8 n vw sq (dig bd) 7 ms ∧ Gn.Src B w' p xs (K + 16) ∧ w.grownBy w' (some p) := by
  have hp := h.lt
  obtain ⟨i0, hi0, hz0, hz1, hz2⟩ := info_parts info_m
  obtain ⟨hf0, hf1, hf2⟩ := n_of hn hf
  have HQM : Hid (∀ W, Calls Tryz.prog 30 #[.int .i64 n] W fun e w' => e = .returned (.int .i64 (2 * (f : Int) + 1)) ∧ W = w') := fun W => by
    have := l06Quorum_any n W hf0
    rw [hf2] at this
    exact this
  have hn7 : n ≤ 7 := by omega
  have hn1 : 1 ≤ n := by omega
  have HN : Hid (∀ _ : Unit, n = 3 * f + 1) := fun _ => hn
  have HV : Hid ((0 ≤ vw ∧ vw ≤ 20) ∧ (1 ≤ sq ∧ sq ≤ 8)) := ⟨hv, hs⟩
  have S0 : Hid (Gn.Src B (w.alloc (.cells #[.string ⟨#[]⟩, .slice none 0 0] 27)) p xs K) := h.alloc hB _
  have G0 : Hid (w.grownBy (w.alloc (.cells #[.string ⟨#[]⟩, .slice none 0 0] 27)) (some p)) := grown_alloc (grown_refl _ _) _
  have A0 : Hid ((w.alloc (.cells #[.string ⟨#[]⟩, .slice none 0 0] 27)).heap[w.heap.size]? = some (.cells #[.string ⟨#[]⟩, .slice none 0 0] 27 (0, 0))) := blk_new _ _ _
  clear h hn hf0 hf1 hf2 hv hs
  go_enter Tryz.func14, Tryz.ntmps14
  go_wp2_with fail
  refine (body_any n f p B K xs _ S0.out hB (by omega) hx (HN.out ()) hf).mono ?_
  rintro e w1 ⟨bd, rfl, hbd, s1, g1⟩
  have a1 := blk_kept A0.out g1 (by omega)
  have l1 : w.heap.size < w1.heap.size := (Array.getElem?_eq_some_iff.1 a1).1
  have HBD : Hid (bdP n bd = true) := hbd
  have T0 : Hid (Dq w ((w1.alloc (.cells #[] 39)).alloc (.cells #[.string bd, .slice (some ⟨w1.heap.size, 0, none⟩) 0 0] 27)) p B (w1.heap.size + 1) (w.heap.size + 1) bd (.slice (some ⟨w1.heap.size, 0, none⟩) 0 0) [] xs (K + 15)) := by
    refine ⟨?_, ?_, ?_, ?_, ?_, ?_⟩
    · have := blk_new (w1.alloc (.cells #[] 39)) #[.string bd, .slice (some ⟨w1.heap.size, 0, none⟩) 0 0] 27
      rw [size_new] at this
      exact this
    · exact ((Below.heap_alloc _ _ _ (by rw [size_new]; omega)).trans (Below.heap_alloc _ _ _ l1)).trans a1
    · exact (OwnM.made w1 (w.heap.size + 1) l1).alloc _
    · exact (s1.alloc hB _).alloc hB _
    · exact grown_alloc (grown_alloc (grown_trans G0.out g1) _) _
    · exact ⟨by omega, by omega, by omega, hp, hB⟩
  clear a1 s1 g1 S0 G0 A0 hbd
  go_upto_region 2 with fail
  generalize (w1.alloc (.cells #[] 39)).alloc (.cells #[.string bd, .slice (some ⟨w1.heap.size, 0, none⟩) 0 0] 27) = w2 at T0 ⊢
  generalize w1.heap.size + 1 = x at T0 ⊢
  go_wp2_with fail
  refine (next_any n p B (K + 15) xs _ T0.out.rd hB (by omega) hx (by omega) (by omega)).mono ?_
  rintro e w3 ⟨sk, rfl, hsk, s3, g3⟩
  have T3 : Hid (Dq w w3 p B x (w.heap.size + 1) bd (.slice (some ⟨w1.heap.size, 0, none⟩) 0 0) [] xs (K + 16)) := T0.out.grown g3 s3
  clear T0 s3 g3
  generalize Value.slice (some ⟨w1.heap.size, 0, none⟩) 0 0 = v3 at T3
  clear l1
  have HD : Hid (∃ D, dig bd = D ∧ D.size = 32) := ⟨_, rfl, dig_size (body_size HBD.out)⟩
  obtain ⟨D, hD, hD2⟩ := HD.out
  have HDD : Hid (dig bd = D ∧ D.size = 32) := ⟨hD, hD2⟩
  clear HD hD hD2
  go_upto_region 4 with fail
  go_loopw [11] (fun i wr => ∃ (j : Nat) (v : Value) (ms : List Mg), i = .int .i64 (j : Int) ∧ Hid (Dq w wr p B x (w.heap.size + 1) bd v ms xs (K + 16)) ∧ Hid (ms.length + (if sk < j ∧ 1 < n then 1 else 0) = j ∧ ms.length ≤ 2 * f + 1) ∧ Hid (Vs8 n vw sq D j ms)) (fun i _ => 8 - (intOf i).toNat)
  case atStart => exact ⟨0, _, [], rfl, T3, ⟨by simp, by simp⟩, Vs8.nil _ _ _ _⟩
  case round =>
    clear T3
    obtain ⟨j, v, ms, rfl, HT, HC, HF⟩ := hrel
    obtain ⟨ao, co, rfl⟩ := RowG.slice (OwnM.row HT.out.own)
    have hc1 := HC.out.1
    have hc2 := HC.out.2
    have t1 := HT.out.c1
    obtain ⟨X, hX, W, QI0, QO0⟩ := Qc.klass wr
    have QI : Hid (∀ w', Below wr.heap.size wr w' → ∃ x, w' = W x) := QI0
    have QO : Hid (∀ x, Below wr.heap.size wr (W x)) := QO0
    clear QI0 QO0
    have y1 := Qc.cell_all QO.out t1
    clear t1
    go_upto_region 4 with fail
    refine Qc.region_class (W := W) (by kernel_rfl) (by kernel_rfl) (QI.out _ Qc.from_drew) ?_
    repeat (go_big_quiet_step (first | (go_at_call 30; refine (HQM.out _).mono ?_; rintro e w2 ⟨rfl, rfl⟩; exact ⟨rfl, ⟨_, rfl⟩⟩)))
    refine wpQuiet_nil ?_
    rintro _ ⟨xq, rfl⟩
    have T4 : Hid (Dq w (W xq) p B x (w.heap.size + 1) bd (.slice ao ms.length co) ms xs (K + 16)) := HT.out.below (QO.out xq)
    clear y1 QI QO HT
    generalize W xq = w4 at T4 ⊢

    by_cases hlt : ms.length < 2 * f + 1
    · have hlt' : (ms.length : Int) < 2 * (f : Int) + 1 := by omega
      have hj6 : j ≤ 6 ∧ (j < n ∨ j = sk) := by
        have hn := HN.out ()
        by_cases hs : sk < j ∧ 1 < n
        · rw [if_pos hs] at hc1; omega
        · rw [if_neg hs] at hc1; omega
      by_cases hsk2 : j = sk ∧ 1 < n
      · obtain ⟨rfl, h1n⟩ := hsk2
        have q2 : ((n : Int) == 1) = false := by simp; omega
        have hj6' := hj6.1
        have HC2 : Hid (ms.length + (if j < j + 1 ∧ 1 < n then 1 else 0) = j + 1 ∧ ms.length ≤ 2 * f + 1) := by
          refine ⟨?_, hc2⟩
          rw [if_neg (by omega)] at hc1
          rw [if_pos (by omega)]
          omega
        have HF2 : Hid (Vs8 n vw sq D (j + 1) ms) := HF.out.skip
        clear hc1 hc2 HC HF hj6
        go_wp2_with fail
        exact ⟨⟨j + 1, _, ms, by go_num, T4, HC2, HF2⟩, by simp [intOf]; omega⟩
      · have hjn : j < n := by
          have hn := HN.out ()
          by_cases hs : sk < j ∧ 1 < n
          · rw [if_pos hs] at hc1; omega
          · rw [if_neg hs] at hc1; omega
        have HC2 : Hid (∀ z : Mg, (ms ++ [z]).length + (if sk < j + 1 ∧ 1 < n then 1 else 0) = j + 1 ∧ (ms ++ [z]).length ≤ 2 * f + 1) := fun z => by
          rw [List.length_append]
          simp only [List.length_cons, List.length_nil]
          by_cases hs : sk < j ∧ 1 < n
          · rw [if_pos hs] at hc1; rw [if_pos (by omega)]; omega
          · rw [if_neg hs] at hc1; rw [if_neg (by omega)]; omega
        have HJ : Hid (∀ _ : Unit, j ≤ 6 ∧ j < n) := fun _ => ⟨hj6.1, hjn⟩
        have hjb := hj6.1
        have HLN : Hid (ms.length ≤ 1000000) := by show _ ≤ _; omega
        have hF2 : Vs8 n vw sq D (j + 1) (ms ++ [pm vw sq D j]) := HF.out.snoc (by omega) (by omega)
        have HSG0 := fun W => l06Sign_any 2 vw sq j 0 D ⟨#[]⟩ ⟨#[]⟩ W (by omega) (by have := HDD.out.2; omega) (by decide)
        unfold pm at hF2
        unfold Ms.msgV at HSG0
        obtain ⟨mk, HM⟩ : ∃ mk, Hid (mmk 2 vw sq j D ⟨#[]⟩ = mk) := ⟨_, rfl⟩
        rw [HM.out] at hF2
        have HF2 : Hid (Vs8 n vw sq D (j + 1) (ms ++ [⟨2, vw, sq, (j : Int), D, ⟨#[]⟩, mk⟩])) := hF2
        have HSG : Hid (∀ W, Dq w W p B x (w.heap.size + 1) bd (.slice ao ms.length co) ms xs (K + 16) → Calls Tryz.prog 31 #[.int .i64 j, .agg #[.int .i64 2, .int .i64 vw, .int .i64 sq, .int .i64 0, .string D, .string ⟨#[]⟩, .string ⟨#[]⟩]] W fun e w' => e = .returned (.agg #[.int .i64 2, .int .i64 vw, .int .i64 sq, .int .i64 j, .string D, .string ⟨#[]⟩, .string mk]) ∧ Dq w w' p B x (w.heap.size + 1) bd (.slice ao ms.length co) ms xs (K + 16)) := fun W hW => by
          refine (HSG0 W).mono ?_
          rintro e w' ⟨rfl, b⟩
          rw [HM.out]
          exact ⟨rfl, hW.below b⟩
        have HDG : Hid (∀ W, Dq w W p B x (w.heap.size + 1) bd (.slice ao ms.length co) ms xs (K + 16) → Calls Tryz.prog 32 #[.string bd] W fun e w' => e = .returned (.string D) ∧ Dq w w' p B x (w.heap.size + 1) bd (.slice ao ms.length co) ms xs (K + 16)) := fun W hW => by
          refine (l06Digest_any bd W (by have := body_size HBD.out; omega)).mono ?_
          rintro e w' ⟨rfl, b⟩
          rw [HDD.out.1]
          exact ⟨rfl, hW.below b⟩
        have T5b := T4.out
        have u0 := And.intro T5b.c0 T5b.c1
        have u1 := And.intro (Dq.c0 T5b.drew) (Dq.c1 T5b.drew)
        clear hc1 hc2 HC hF2 HSG0 T4
        by_cases e : j = sk
        · have q2 : ((n : Int) == 1) = true := by simp; omega
          subst e
          clear hsk2 hjn hlt hj6 hsk hn7 hn1 hp hK hx
          go_upto_region 7 with fail
          go_region_law
            (first
              | (go_simp; go_at_call 32; (with_reducible refine (HDG.out _ (by first | assumption | exact Dq.drew (by assumption) | exact Dq.alloc (by assumption) _ | exact Dq.drew (Dq.alloc (by assumption) _) | exact Dq.alloc (Dq.drew (by assumption)) _)).mono ?_); rintro e wn ⟨rfl, tn⟩; have qn0 := tn.c0; have qn1 := tn.c1; have qa0 := fun o => Dq.c0 (tn.alloc o); have qa1 := fun o => Dq.c1 (tn.alloc o); have qd0 := Dq.c0 tn.drew; have qd1 := Dq.c1 tn.drew; try go_simp)
              | (go_simp; go_at_call 31; (with_reducible refine (HSG.out _ (by first | assumption | exact Dq.drew (by assumption) | exact Dq.alloc (by assumption) _ | exact Dq.drew (Dq.alloc (by assumption) _) | exact Dq.alloc (Dq.drew (by assumption)) _)).mono ?_); rintro e wh ⟨rfl, th⟩; have qh0 := th.c0; have qh1 := th.c1; have qha0 := fun o => Dq.c0 (th.alloc o); have qha1 := fun o => Dq.c1 (th.alloc o); have qhd0 := Dq.c0 th.drew; have qhd1 := Dq.c1 th.drew; try go_simp)
              | (refine step_dq (by rfl) _ _ 25 (by rfl) Tryz.underlying25 hi0 hz0 hz1 hz2 _ w p B x _ _ _ ms xs _ ⟨2, vw, sq, (j : Int), D, ⟨#[]⟩, mk⟩ (by rfl) _ (by rfl) (by first | exact heap_alloc_new _ _ | exact (heap_alloc_new _ _ : (World.alloc _ _).drew.heap[_]? = _)) (by first | assumption | exact Dq.drew (by assumption) | exact Dq.alloc (by assumption) _ | exact Dq.drew (Dq.alloc (by assumption) _) | exact Dq.alloc (Dq.drew (by assumption)) _) HLN.out ?_; intro v5 w5 t5; obtain ⟨a5, cap5, rfl⟩ := RowG.slice (OwnM.row t5.own); obtain ⟨s5, f5⟩ := t5.c1; try go_simp))
          all_goals
            rw [show (ms ++ [(⟨2, vw, sq, (j : Int), D, ⟨#[]⟩, mk⟩ : Mg)]).length = ms.length + 1 by simp] at t5
            have T5 : Hid (Dq w (w5.setCell ⟨x, 1, none⟩ (.slice a5 (ms.length + 1) cap5)) p B x (w.heap.size + 1) bd (.slice a5 (ms.length + 1) cap5) (ms ++ [⟨2, vw, sq, (j : Int), D, ⟨#[]⟩, mk⟩]) xs (K + 16)) := t5.set
            clear t5 T5b u0 u1 tn th qn0 qn1 qa0 qa1 qd0 qd1 qh0 qh1 qha0 qha1 qhd0 qhd1 s5 f5
            generalize w5.setCell ⟨x, 1, none⟩ (.slice a5 (ms.length + 1) cap5) = w6 at T5 ⊢
            go_wp2_with fail
            exact ⟨⟨j + 1, _, _, by go_num, T5, HC2.out _, HF2⟩, by have := (HJ.out ()).1; simp [intOf]; omega⟩
        · have q1 : ((j : Int) == (sk : Int)) = false := by simp; omega
          have q1' : ((j : Int) != (sk : Int)) = true := by simp; omega
          clear hsk2 hjn hlt e hj6 hsk hn7 hn1 hp hK hx
          go_upto_region 7 with fail
          go_region_law
            (first
              | (go_simp; go_at_call 32; (with_reducible refine (HDG.out _ (by first | assumption | exact Dq.drew (by assumption) | exact Dq.alloc (by assumption) _ | exact Dq.drew (Dq.alloc (by assumption) _) | exact Dq.alloc (Dq.drew (by assumption)) _)).mono ?_); rintro e wn ⟨rfl, tn⟩; have qn0 := tn.c0; have qn1 := tn.c1; have qa0 := fun o => Dq.c0 (tn.alloc o); have qa1 := fun o => Dq.c1 (tn.alloc o); have qd0 := Dq.c0 tn.drew; have qd1 := Dq.c1 tn.drew; try go_simp)
              | (go_simp; go_at_call 31; (with_reducible refine (HSG.out _ (by first | assumption | exact Dq.drew (by assumption) | exact Dq.alloc (by assumption) _ | exact Dq.drew (Dq.alloc (by assumption) _) | exact Dq.alloc (Dq.drew (by assumption)) _)).mono ?_); rintro e wh ⟨rfl, th⟩; have qh0 := th.c0; have qh1 := th.c1; have qha0 := fun o => Dq.c0 (th.alloc o); have qha1 := fun o => Dq.c1 (th.alloc o); have qhd0 := Dq.c0 th.drew; have qhd1 := Dq.c1 th.drew; try go_simp)
              | (refine step_dq (by rfl) _ _ 25 (by rfl) Tryz.underlying25 hi0 hz0 hz1 hz2 _ w p B x _ _ _ ms xs _ ⟨2, vw, sq, (j : Int), D, ⟨#[]⟩, mk⟩ (by rfl) _ (by rfl) (by first | exact heap_alloc_new _ _ | exact (heap_alloc_new _ _ : (World.alloc _ _).drew.heap[_]? = _)) (by first | assumption | exact Dq.drew (by assumption) | exact Dq.alloc (by assumption) _ | exact Dq.drew (Dq.alloc (by assumption) _) | exact Dq.alloc (Dq.drew (by assumption)) _) HLN.out ?_; intro v5 w5 t5; obtain ⟨a5, cap5, rfl⟩ := RowG.slice (OwnM.row t5.own); obtain ⟨s5, f5⟩ := t5.c1; try go_simp))
          all_goals
            rw [show (ms ++ [(⟨2, vw, sq, (j : Int), D, ⟨#[]⟩, mk⟩ : Mg)]).length = ms.length + 1 by simp] at t5
            have T5 : Hid (Dq w (w5.setCell ⟨x, 1, none⟩ (.slice a5 (ms.length + 1) cap5)) p B x (w.heap.size + 1) bd (.slice a5 (ms.length + 1) cap5) (ms ++ [⟨2, vw, sq, (j : Int), D, ⟨#[]⟩, mk⟩]) xs (K + 16)) := t5.set
            clear t5 T5b u0 u1 tn th qn0 qn1 qa0 qa1 qd0 qd1 qh0 qh1 qha0 qha1 qhd0 qhd1 s5 f5
            generalize w5.setCell ⟨x, 1, none⟩ (.slice a5 (ms.length + 1) cap5) = w6 at T5 ⊢
            go_wp2_with fail
            exact ⟨⟨j + 1, _, _, by go_num, T5, HC2.out _, HF2⟩, by have := (HJ.out ()).1; simp [intOf]; omega⟩
    · have hlt' : ¬ (ms.length : Int) < 2 * (f : Int) + 1 := by omega
      have HL : Hid (ms.length = 2 * f + 1) := by show _ = _; omega
      have HFN : Hid (Vs8 n vw sq (dig bd) 7 ms) := by
        show Vs8 _ _ _ _ _ _
        rw [HDD.out.1]
        refine HF.out.le ?_
        by_cases hs : sk < j ∧ 1 < n
        · rw [if_pos hs] at hc1; omega
        · rw [if_neg hs] at hc1; omega
      have AZ : Hid (w4.heap[w.heap.size]? = some (.cells #[.string ⟨#[]⟩, .slice none 0 0] 27 (0, 0))) := T4.out.ha
      have BZ : Hid (w4.heap[x]? = some (.cells #[.string bd, .slice ao ms.length co] 27 (0, 0))) := T4.out.hx
      have SZ : Hid (Gn.Src B w4 p xs (K + 16)) := T4.out.rd
      have GZ : Hid (w.grownBy w4 (some p)) := T4.out.gr
      have OZ : Hid (OwnM w4 (w.heap.size + 1) (.slice ao ms.length co) ms) := T4.out.own
      clear hc1 hc2 HC HF T4
      go_upto_region 8 with fail
      obtain ⟨ca0, fa0⟩ := blk_cell AZ.out 0 (x := .string ⟨#[]⟩) rfl
      have cb0 := (blk_cell BZ.out 0 (x := .string bd) rfl).1
      obtain ⟨ca1, fa1⟩ := blk_cell AZ.out 1 (x := .slice none 0 0) rfl
      have cb1 := (blk_cell BZ.out 1 (x := .slice ao ms.length co) rfl).1
      have AF : ((w4.setCell ⟨w.heap.size, 0, none⟩ (.string bd)).setCell ⟨w.heap.size, 1, none⟩ (.slice ao ms.length co)).heap[w.heap.size]? = some (.cells #[.string bd, .slice ao ms.length co] 27 (0, 0)) := blk_set (blk_set AZ.out 0 (.string bd)) 1 (.slice ao ms.length co)
      have GF : Hid (w.grownBy ((w4.setCell ⟨w.heap.size, 0, none⟩ (.string bd)).setCell ⟨w.heap.size, 1, none⟩ (.slice ao ms.length co)) (some p)) := grown_new (grown_new GZ.out (Nat.le_refl _) 0 (.string bd)) (Nat.le_refl _) 1 (.slice ao ms.length co)
      have SF : Hid (Gn.Src B ((w4.setCell ⟨w.heap.size, 0, none⟩ (.string bd)).setCell ⟨w.heap.size, 1, none⟩ (.slice ao ms.length co)) p xs (K + 16)) := Gn.Src.set (Gn.Src.set SZ.out (by omega) (by omega) 0 (.string bd)) (by omega) (by omega) 1 (.slice ao ms.length co)
      have OF : Hid (OwnM ((w4.setCell ⟨w.heap.size, 0, none⟩ (.string bd)).setCell ⟨w.heap.size, 1, none⟩ (.slice ao ms.length co)) (w.heap.size + 1) (.slice ao ms.length co) ms) := ownm_set (ownm_set OZ.out (by omega) 0 (.string bd)) (by omega) 1 (.slice ao ms.length co)
      go_wp2_with fail
      generalize (w4.setCell ⟨w.heap.size, 0, none⟩ (.string bd)).setCell ⟨w.heap.size, 1, none⟩ (.slice ao ms.length co) = wf at AF GF SF OF ⊢
      have d0 := (blk_cell AF 0 (x := .string bd) rfl).1
      have d1 := (blk_cell AF 1 (x := .slice ao ms.length co) rfl).1
      exact bodyPost_ret (v := .agg #[.string bd, .slice ao ms.length co]) (by simp [results, Tryz.results14, go_sem, d0, d1]) rfl ⟨_, _, rfl, ms, OwnM.mono OF.out (by omega), HBD.out, HL.out, HFN.out, SF.out, GF.out⟩
end Go.Proofs.YtmknnkhehkegcaaGreatDoor.Dc

/- Two messages, requests or readings that are alike do not differ. -/
namespace Go.Proofs.YtmknnkhehkegcaaGreatDoor.Wb
open Go.RowKit

theorem guardM (op : BinOp) (a b : Operand) (xs ys : Array Value) (W : World) : (eqGuard op 39 a b (.agg xs) (.agg ys)).run Tryz.prog W = .ok () W := run_eqGuard_agg W op 39 a b xs ys (by kernel_rfl)
set_option maxRecDepth 100000 in
theorem neqM (kd vw sq fr : Int) (dg bd mc : ByteArray) (W : World) : (binOp .neq 39 (.agg #[.int .i64 kd, .int .i64 vw, .int .i64 sq, .int .i64 fr, .string dg, .string bd, .string mc]) (.agg #[.int .i64 kd, .int .i64 vw, .int .i64 sq, .int .i64 fr, .string dg, .string bd, .string mc])).run Tryz.prog W = .ok (.bool false) W := by
  rw [run_neq_struct, run_equalIn_struct W 9999 39 _ _ (by kernel_rfl) (by kernel_rfl)]
  simp [go_sem, Program.fieldsOf, Tryz.underlying39, Tryz.underlying3, Tryz.underlying9]
theorem guardQ (op : BinOp) (a b : Operand) (xs ys : Array Value) (W : World) : (eqGuard op 63 a b (.agg xs) (.agg ys)).run Tryz.prog W = .ok () W := run_eqGuard_agg W op 63 a b xs ys (by kernel_rfl)
set_option maxRecDepth 100000 in
theorem neqQ (c st k l : Int) (n : ByteArray) (W : World) : (binOp .neq 63 (.agg #[.int .i64 c, .int .i64 st, .int .i64 k, .int .i64 l, .string n]) (.agg #[.int .i64 c, .int .i64 st, .int .i64 k, .int .i64 l, .string n])).run Tryz.prog W = .ok (.bool false) W := by
  rw [run_neq_struct, run_equalIn_struct W 9999 63 _ _ (by kernel_rfl) (by kernel_rfl)]
  simp [go_sem, Program.fieldsOf, Tryz.underlying63, Tryz.underlying3, Tryz.underlying9]
theorem guardD (op : BinOp) (a b : Operand) (xs ys : Array Value) (W : World) : (eqGuard op 105 a b (.agg xs) (.agg ys)).run Tryz.prog W = .ok () W := run_eqGuard_agg W op 105 a b xs ys (by kernel_rfl)
set_option maxRecDepth 100000 in
theorem neqD (f x : Int) (m : ByteArray) (W : World) : (binOp .neq 105 (.agg #[.int .i64 f, .int .i64 x, .string m]) (.agg #[.int .i64 f, .int .i64 x, .string m])).run Tryz.prog W = .ok (.bool false) W := by
  rw [run_neq_struct, run_equalIn_struct W 9999 105 _ _ (by kernel_rfl) (by kernel_rfl)]
  simp [go_sem, Program.fieldsOf, Tryz.underlying105, Tryz.underlying3, Tryz.underlying9]
end Go.Proofs.YtmknnkhehkegcaaGreatDoor.Wb

/- Drawn certificates: CertOf; messages held against themselves. -/
namespace Go.Proofs.YtmknnkhehkegcaaGreatDoor.Dc
open Go.RowKit Go.Proofs.YtmknnkhehkegcaaGreatDoor.Sl Go.Proofs.YtmknnkhehkegcaaGreatDoor.By Go.Proofs.YtmknnkhehkegcaaGreatDoor.Ap Go.Proofs.YtmknnkhehkegcaaGreatDoor.Rr Go.Proofs.YtmknnkhehkegcaaGreatDoor.Gn
open Go.Proofs.YtmknnkhehkegcaaGreatDoor.Gm (Mg Row)
open Go.Proofs.YtmknnkhehkegcaaGreatDoor.Bd (dig)
open Go.Proofs.YtmknnkhehkegcaaGreatDoor.Bw (bdP)
open Go.Proofs.YtmknnkhehkegcaaGreatDoor.Rc (OwnM OwnM.row OwnM.kept OwnM.lt OwnM.below OwnM.mono)
open Go.Proofs.YtmknnkhehkegcaaGreatDoor.Rg (RowG.slice RowG.at lt_at mem_at bel_new size_new)

set_option maxHeartbeats 400000 in
theorem CertOf_any (n f : Nat) (vw sq : Int) (v : Value) (xs : List Int) (w : World) (h : RowB w v xs) (hx : xs.length ≤ 1048576) (hn : n = 3 * f + 1) (hf : f ≤ 2) (hv : 0 ≤ vw ∧ vw ≤ 20) (hs : 1 ≤ sq ∧ sq ≤ 8) :
    Calls Tryz.prog 5 #[v, .int .i64 n, .int .i64 vw, .int .i64 sq] w fun e w' => ∃ bd u ms, e = .returned (.agg #[.string bd, u]) ∧ OwnM w' w.heap.size u ms ∧ bdP n bd = true ∧ ms.length = 2 * f + 1 ∧ Vs8 n vw sq (dig bd) 7 ms ∧ Below w.heap.size w w' := by
  have B0 : Below w.heap.size w (w.alloc (.cells #[.string ⟨#[]⟩, .slice none 0 0] 27)) := bel_new _ _
  have R0 : Hid (RowB (w.alloc (.cells #[.string ⟨#[]⟩, .slice none 0 0] 27)) v xs) := h.below B0
  have A0 : Hid ((w.alloc (.cells #[.string ⟨#[]⟩, .slice none 0 0] 27)).heap[w.heap.size]? = some (.cells #[.string ⟨#[]⟩, .slice none 0 0] 27 (0, 0))) := blk_new _ _ _
  have hsz0 : (w.alloc (.cells #[.string ⟨#[]⟩, .slice none 0 0] 27)).heap.size = w.heap.size + 1 := size_new _ _
  have HN : Hid (∀ _ : Unit, n = 3 * f + 1) := fun _ => hn
  have HV : Hid ((0 ≤ vw ∧ vw ≤ 20) ∧ (1 ≤ sq ∧ sq ≤ 8)) := ⟨hv, hs⟩
  clear h hn hv hs
  go_enter Tryz.func5, Tryz.ntmps5
  go_wp2_with fail
  refine (source_any _ xs _ R0.out hx).mono ?_
  rw [hsz0]
  rintro e w1 ⟨rfl, s1, b1⟩
  have l1 := s1.lt
  have A1 : Hid (w1.heap[w.heap.size]? = some (.cells #[.string ⟨#[]⟩, .slice none 0 0] 27 (0, 0))) := (b1.block _ (by omega)).trans A0.out
  have S1 : Hid (Gn.Src (w.heap.size + 1) w1 (w.heap.size + 1) xs 0) := s1
  have B1 : Hid (Below w.heap.size w w1) := B0.trans (b1.mono (by omega))
  clear s1 b1 B0 R0 A0 hsz0
  go_wp2_with fail
  refine (cert_any n f (w.heap.size + 1) (w.heap.size + 1) 0 vw sq xs _ S1.out (Nat.le_refl _) (by decide) hx (HN.out ()) hf HV.out.1 HV.out.2).mono ?_
  rintro e w2 ⟨bd, u, ms, rfl, o2, hbd, hl, hvs, s2, g2⟩
  have A2 : Hid (w2.heap[w.heap.size]? = some (.cells #[.string ⟨#[]⟩, .slice none 0 0] 27 (0, 0))) := blk_kept A1.out g2 (by omega)
  have B2 : Hid (Below w.heap.size w w2) := ⟨g2.os.trans B1.out.os, g2.tape.trans B1.out.tape, g2.output.trans B1.out.output, Nat.le_trans B1.out.size g2.size, fun k hk => (g2.block k (Nat.lt_of_lt_of_le hk B1.out.size) (by simp; omega)).trans (B1.out.block k hk)⟩
  have HQ : Hid (bdP n bd = true ∧ ms.length = 2 * f + 1 ∧ Vs8 n vw sq (dig bd) 7 ms) := ⟨hbd, hl, hvs⟩
  clear hbd hl hvs
  obtain ⟨ap, cp, rfl⟩ := RowG.slice (OwnM.row o2)
  have O2 : Hid (OwnM w2 (w.heap.size + 1) (.slice ap ms.length cp) ms) := OwnM.mono o2 (by omega)
  clear o2 s2 g2 A1 S1 B1
  obtain ⟨ca0, fa0⟩ := blk_cell A2.out 0 (x := .string ⟨#[]⟩) rfl
  obtain ⟨ca1, fa1⟩ := blk_cell A2.out 1 (x := .slice none 0 0) rfl
  have AF : ((w2.setCell ⟨w.heap.size, 0, none⟩ (.string bd)).setCell ⟨w.heap.size, 1, none⟩ (.slice ap ms.length cp)).heap[w.heap.size]? = some (.cells #[.string bd, .slice ap ms.length cp] 27 (0, 0)) := blk_set (blk_set A2.out 0 (.string bd)) 1 (.slice ap ms.length cp)
  have BF : Hid (Below w.heap.size w ((w2.setCell ⟨w.heap.size, 0, none⟩ (.string bd)).setCell ⟨w.heap.size, 1, none⟩ (.slice ap ms.length cp))) := Below.setCell (Below.setCell B2.out (p := ⟨w.heap.size, 0, none⟩) (Nat.le_refl _) (.string bd)) (p := ⟨w.heap.size, 1, none⟩) (Nat.le_refl _) (.slice ap ms.length cp)
  have OF : Hid (OwnM ((w2.setCell ⟨w.heap.size, 0, none⟩ (.string bd)).setCell ⟨w.heap.size, 1, none⟩ (.slice ap ms.length cp)) (w.heap.size + 1) (.slice ap ms.length cp) ms) := ownm_set (ownm_set O2.out (by omega) 0 (.string bd)) (by omega) 1 (.slice ap ms.length cp)
  go_wp2_with fail
  generalize (w2.setCell ⟨w.heap.size, 0, none⟩ (.string bd)).setCell ⟨w.heap.size, 1, none⟩ (.slice ap ms.length cp) = wf at AF BF OF ⊢
  have d0 := (blk_cell AF 0 (x := .string bd) rfl).1
  have d1 := (blk_cell AF 1 (x := .slice ap ms.length cp) rfl).1
  exact bodyPost_ret (v := .agg #[.string bd, .slice ap ms.length cp]) (by simp [results, Tryz.results5, go_sem, d0, d1]) rfl ⟨_, _, ms, rfl, OwnM.mono OF.out (by omega), HQ.out.1, HQ.out.2.1, HQ.out.2.2, BF.out⟩

set_option maxRecDepth 100000 in
set_option maxHeartbeats 1600000 in
theorem sameMessages_any (v u : Value) (ms : List Mg) (w : World) (h : Row w v ms) (h2 : Row w u ms) (hl : ms.length ≤ 1048576) :
    Calls Tryz.prog 12 #[v, u] w fun e w' => e = .returned (.bool true) ∧ Below w.heap.size w w' := by
  have H : Hid (Row w v ms) := h
  have H2 : Hid (Row w u ms) := h2
  obtain ⟨a, cap, rfl⟩ := RowG.slice h
  obtain ⟨a2, cap2, rfl⟩ := RowG.slice h2
  clear h h2
  have hne0 : ((ms.length : Int) != (ms.length : Int)) = false := by simp
  go_enter Tryz.func12, Tryz.ntmps12
  go_wp2_with fail
  go_loopw [5] (fun i wr => ∃ k : Nat, k ≤ ms.length ∧ i = .int .i64 k ∧ Hid (Below w.heap.size w wr)) (fun i _ => ms.length - (intOf i).toNat)
  case atStart => exact ⟨0, by omega, rfl, Below.refl _ _⟩
  case round =>
    obtain ⟨k, hk, rfl, HB⟩ := hrel
    by_cases hlt : k < ms.length
    · obtain ⟨m, hm⟩ := Rg.get_at (xs := ms) hlt
      obtain ⟨b, off, rfl, hb, c0, c1, c2, c3, c4, c5, c6⟩ := RowG.at (H.out.below HB.out) rfl hm
      obtain ⟨b', off', rfl, hb', d0, d1, d2, d3, d4, d5, d6⟩ := RowG.at (H2.out.below HB.out) rfl hm
      have hp0 : (0 : Int) ≤ (k : Int) := by omega
      have hp1 : (k : Int) < (ms.length : Int) := by omega
      have hne := Wb.neqM m.kd m.vw m.sq m.fr m.dg m.bd m.mc
      have hgd := Wb.guardM
      clear hm
      go_upto_region 6 with fail
      obtain ⟨X, hX, W, QI0, QO0⟩ := Qc.klass wr
      have QI : Hid (∀ w', Below wr.heap.size wr w' → ∃ x, w' = W x) := QI0
      have QO : Hid (∀ x, Below wr.heap.size wr (W x)) := QO0
      clear QI0 QO0
      have y0 := Qc.cell_all QO.out c0
      have z0 := Qc.cell_all QO.out d0
      have y1 := Qc.cell_all QO.out c1
      have z1 := Qc.cell_all QO.out d1
      have y2 := Qc.cell_all QO.out c2
      have z2 := Qc.cell_all QO.out d2
      have y3 := Qc.cell_all QO.out c3
      have z3 := Qc.cell_all QO.out d3
      have y4 := Qc.cell_all QO.out c4
      have z4 := Qc.cell_all QO.out d4
      have y5 := Qc.cell_all QO.out c5
      have z5 := Qc.cell_all QO.out d5
      have y6 := Qc.cell_all QO.out c6
      have z6 := Qc.cell_all QO.out d6
      refine Qc.region_class (W := W) (by kernel_rfl) (by kernel_rfl) (QI.out _ Qc.from_drew) ?_
      repeat (go_big_quiet_step (fail))
      refine wpQuiet_nil ?_
      rintro _ ⟨xq, rfl⟩
      have G2 : Hid (Below w.heap.size w (W xq)) := HB.out.trans ((QO.out xq).mono HB.out.size)
      generalize W xq = wq at G2 ⊢
      go_wp2_with fail
      exact ⟨⟨k + 1, by omega, by go_num, G2⟩, by simp [intOf]; omega⟩
    · go_wp2_with fail
      go_ret
      exact ⟨rfl, HB.out⟩
end Go.Proofs.YtmknnkhehkegcaaGreatDoor.Dc
