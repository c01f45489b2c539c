/- Texts put together: Wc, Wd. -/
import Derived.Test.YtondmbeccpekiaaGreatDoorH30
import Derived.Test.YtondmbeccpekiaaGreatDoorH35
/- Lists of certificates of one's own; those that a view change brings: plain facts. -/
namespace Go.Proofs.YtondmbeccpekiaaGreatDoor.Wc
open Go.RowKit Go.Proofs.YtondmbeccpekiaaGreatDoor.Sl Go.Proofs.YtondmbeccpekiaaGreatDoor.By Go.Proofs.YtondmbeccpekiaaGreatDoor.Ap Go.Proofs.YtondmbeccpekiaaGreatDoor.Gm Go.Proofs.YtondmbeccpekiaaGreatDoor.Si Go.Proofs.YtondmbeccpekiaaGreatDoor.Tm Go.Proofs.YtondmbeccpekiaaGreatDoor.Ms Go.Proofs.YtondmbeccpekiaaGreatDoor.Sh Go.Proofs.YtondmbeccpekiaaGreatDoor.Vt Go.Proofs.YtondmbeccpekiaaGreatDoor.Mp Go.Proofs.YtondmbeccpekiaaGreatDoor.Rq
open Go.Proofs.YtondmbeccpekiaaGreatDoor.Rc (OwnM OwnM.row OwnM.kept OwnM.lt OwnM.below OwnM.mono rcOK rcBd rcMs rcCode own_ne Kq)
open Go.Proofs.YtondmbeccpekiaaGreatDoor.Ty (RowT tnth)
open Go.Proofs.YtondmbeccpekiaaGreatDoor.Qm (qOut)
open Go.Proofs.YtondmbeccpekiaaGreatDoor.Rg (RowG RowG.slice RowG.at lt_at mem_at blk_cell blk_set bel_new)

structure Ct where
  bd : ByteArray
  ms : List Mg
instance : Inhabited Ct := ⟨⟨⟨#[]⟩, []⟩⟩
noncomputable def ct (t : ByteArray) : Ct := ⟨rcBd (bys t), rcMs (bys t)⟩
def hd (c : Ct) : Mg := c.ms.getD 0 default
noncomputable def okC (n : Int) (t : ByteArray) : Bool := rcOK (bys t) && crtB n (ct t).bd (ct t).ms
theorem crt_hd {n : Int} {bd : ByteArray} {ms : List Mg} (h : crtB n bd ms = true) : ms[0]? = some (ms.getD 0 default) ∧ 1 ≤ (ms.getD 0 default).sq ∧ (ms.getD 0 default).sq ≤ 8 ∧ 0 ≤ (ms.getD 0 default).vw ∧ (ms.getD 0 default).vw ≤ 20 := by
  obtain ⟨_, _, _, ⟨x, hx, h4⟩, _⟩ := bOf_iff.1 h
  have e : ms.getD 0 default = x := by rw [List.getD_eq_getElem?_getD, hx]; rfl
  rw [e]
  refine ⟨hx, ?_⟩
  obtain ⟨h5, h6, _⟩ := h4 x (mem_at hx)
  unfold sg gB lB at h5
  rw [Bool.and_eq_true, Bool.and_eq_true] at h5
  have h7 := h5.2.1
  rw [h6, msg_eq, kind2] at h7
  unfold placeB inB at h7
  simp only [Bool.and_eq_true, decide_eq_true_eq] at h7
  exact ⟨h7.2.2.2.2.1.1.1, h7.2.2.2.2.1.1.2, h7.1.1, h7.1.2⟩
theorem ok_hd {n : Int} {t : ByteArray} (h : okC n t = true) : (ct t).ms[0]? = some (hd (ct t)) ∧ 1 ≤ (hd (ct t)).sq ∧ (hd (ct t)).sq ≤ 8 ∧ 0 ≤ (hd (ct t)).vw ∧ (hd (ct t)).vw ≤ 20 := by
  unfold okC at h
  rw [Bool.and_eq_true] at h
  exact crt_hd h.2
noncomputable def lastS (ts : List ByteArray) : Nat → Int
  | 0 => 0
  | j + 1 => (hd (ct (tnth ts j))).sq
def OneC (n view : Int) (ts : List ByteArray) (j : Nat) : Prop := okC n (tnth ts j) = true ∧ lastS ts j < (hd (ct (tnth ts j))).sq ∧ (hd (ct (tnth ts j))).vw < view
def GoodC (n view : Int) (ts : List ByteArray) (k : Nat) : Prop := ∀ j, j < k → OneC n view ts j
noncomputable def rsB (n view : Int) (ts : List ByteArray) : Bool := bOf (GoodC n view ts ts.length)
theorem GoodC.zero (n view : Int) (ts : List ByteArray) : GoodC n view ts 0 := fun j h => by omega
theorem GoodC.succ {n view : Int} {ts : List ByteArray} {k : Nat} (h : GoodC n view ts k) (h1 : OneC n view ts k) : GoodC n view ts (k + 1) := fun j hj => by
  by_cases e : j = k
  · subst e; exact h1
  · exact h j (by omega)
theorem rs_no {n view : Int} {ts : List ByteArray} {k : Nat} (hk : k < ts.length) (h : ¬ OneC n view ts k) : rsB n view ts = false := bOf_false fun hg => h (hg k hk)
theorem rs_yes {n view : Int} {ts : List ByteArray} (h : GoodC n view ts ts.length) : rsB n view ts = true := bOf_true h
theorem good_len {n view : Int} {ts : List ByteArray} : ∀ {k : Nat}, GoodC n view ts k → (k : Int) ≤ lastS ts k ∧ lastS ts k ≤ 8
  | 0, _ => ⟨by show (0 : Int) ≤ 0; omega, by show (0 : Int) ≤ 8; omega⟩
  | k + 1, h => by
    have ih := good_len (k := k) (fun j hj => h j (by omega))
    obtain ⟨h1, h2, _⟩ := h k (by omega)
    have h3 := (ok_hd h1).2.2.1
    show ((k + 1 : Nat) : Int) ≤ (hd (ct (tnth ts k))).sq ∧ _
    refine ⟨by omega, h3⟩
theorem rs_eight {n view : Int} {ts : List ByteArray} (h : 8 < ts.length) : rsB n view ts = false := bOf_false fun hg => by
  have := good_len hg; omega
def cc (p : Ct × Value) : List Value := [.string p.1.bd, p.2]
structure OwnC (w : World) (B : Nat) (v : Value) (ps : List (Ct × Value)) : Prop where
  row : w.ownsRow B 87 2 v ps.length (ps.flatMap cc)
  mem : ∀ p ∈ ps, OwnM w B p.2 p.1.ms
  apart : ps.Pairwise fun p q => ∀ g, p.2.ownBlock = some g → q.2.ownBlock ≠ some g
theorem own_slice {w : World} {B : Nat} {v : Value} {ms : List Mg} (h : OwnM w B v ms) : ∃ a cap, v = .slice a ms.length cap := RowG.slice h.row
theorem cc_at : ∀ (ps : List (Ct × Value)) (i : Nat) (p : Ct × Value) (j : Nat), ps[i]? = some p → j < 2 → (ps.flatMap cc)[i * 2 + j]? = (cc p)[j]?
  | [], i, p, j, h, _ => by simp at h
  | q :: ps, 0, p, j, h, hj => by
    simp at h
    subst h
    rw [List.flatMap_cons, Nat.zero_mul, Nat.zero_add, List.getElem?_append_left (by simp [cc]; omega)]
  | q :: ps, i + 1, p, j, h, hj => by
    simp at h
    rw [List.flatMap_cons, List.getElem?_append_right (by simp [cc]; omega)]
    have := cc_at ps i p j h hj
    rw [← this]
    congr 1
    simp [cc]
    omega
theorem OwnC.nil (w : World) (B : Nat) : OwnC w B (.slice none 0 0) [] := ⟨World.ownsRow_nil _ _ _ _, fun p h => by simp at h, List.Pairwise.nil⟩
theorem OwnC.made (w : World) (B : Nat) (hB : B ≤ w.heap.size) : OwnC (w.alloc (.cells #[] 87)) B (.slice (some ⟨w.heap.size, 0, none⟩) 0 0) [] := ⟨World.ownsRow_made w #[] 0 hB (by decide) rfl, fun p h => by simp at h, List.Pairwise.nil⟩
theorem OwnC.lt {w : World} {B : Nat} {v : Value} {ps : List (Ct × Value)} (h : OwnC w B v ps) : ∀ g, v.ownBlock = some g → B ≤ g ∧ g < w.heap.size := World.ownsRow.lt h.row
theorem row_kept {w w' : World} {B n : Nat} {e : TypeId} {s : Nat} {v : Value} {xs : List Value} (h : w.ownsRow B e s v n xs) (hk : ∀ g, v.ownBlock = some g → w'.heap[g]? = w.heap[g]?) : w'.ownsRow B e s v n xs := by
  obtain ⟨hl, h⟩ := h
  refine ⟨hl, ?_⟩
  rcases h with h | ⟨g, cap, cur, rfl, h1, hg, h2⟩
  · exact .inl h
  · exact .inr ⟨g, cap, cur, rfl, h1, (hk g rfl).trans hg, h2⟩
theorem row_mono {w : World} {B B' n : Nat} {e : TypeId} {s : Nat} {v : Value} {xs : List Value} (h : w.ownsRow B e s v n xs) (hb : B' ≤ B) : w.ownsRow B' e s v n xs := by
  obtain ⟨hl, h⟩ := h
  refine ⟨hl, ?_⟩
  rcases h with h | ⟨g, cap, cur, rfl, h1, hg, h2⟩
  · exact .inl h
  · exact .inr ⟨g, cap, cur, rfl, Nat.le_trans hb h1, hg, h2⟩
theorem OwnC.below {w w' : World} {B : Nat} {v : Value} {ps : List (Ct × Value)} (h : OwnC w B v ps) (hb : Below w.heap.size w w') : OwnC w' B v ps :=
  ⟨row_kept h.row fun g hg => hb.block g (h.lt g hg).2, fun p hp => (h.mem p hp).below hb, h.apart⟩
theorem OwnC.slice {w : World} {B : Nat} {v : Value} {ps : List (Ct × Value)} (h : OwnC w B v ps) : ∃ a cap, v = .slice a ps.length cap := by
  obtain ⟨hl, h⟩ := h.row
  rcases h with ⟨rfl, h0⟩ | ⟨g, cap, cur, rfl, h1, hg, h2⟩
  · exact ⟨none, 0, by rw [h0]⟩
  · exact ⟨_, cap, rfl⟩
theorem OwnC.at {w : World} {B : Nat} {a : Option Addr} {l cap : Nat} {ps : List (Ct × Value)} {i : Nat} {p : Ct × Value} (h : OwnC w B (.slice a l cap) ps) (hi : ps[i]? = some p) : ∃ g, a = some ⟨g, 0, none⟩ ∧ B ≤ g ∧ g < w.heap.size ∧ w.cell? ⟨g, i * 2, none⟩ = some (.string p.1.bd) ∧ w.cell? ⟨g, i * 2 + 1, none⟩ = some p.2 := by
  have hil := lt_at hi
  have hm := h.row
  obtain ⟨hl, hh⟩ := hm
  rcases hh with ⟨_, h0⟩ | ⟨g, cap', cur, e, hB, hg, hc, _, hs, htk⟩
  · omega
  · cases e
    have key : ∀ j u, j < 2 → (cc p)[j]? = some u → w.cell? ⟨g, i * 2 + j, none⟩ = some u := fun j u hj hu => by
      rw [Joins.cell_of_block hg, ← Array.getElem?_toList]
      have h1 := cc_at ps i p j hi hj
      rw [← htk, List.getElem?_take, if_pos (by omega)] at h1
      rw [h1, hu]
    exact ⟨g, rfl, hB, (Array.getElem?_eq_some_iff.1 hg).1, key 0 _ (by decide) rfl, key 1 _ (by decide) rfl⟩
theorem info_c : (Tryz.prog.info? 87).map (fun i => (i.zero, i.size, i.bytes)) = some (some (.agg #[.string ⟨#[]⟩, .slice none 0 0]), 2, 40) := by kernel_rfl
theorem row_ne {w : World} {B B' n : Nat} {v u : Value} {xs : List Value} {ms : List Mg} (h : w.ownsRow B 87 2 v n xs) (hm : OwnM w B' u ms) : ∀ g, u.ownBlock = some g → some g ≠ v.ownBlock := fun g hg e => by
  obtain ⟨_, h | ⟨g', cap', cur, he, _, hgg, _⟩⟩ := h
  · rw [h.1] at e; simp [Value.ownBlock] at e
  · rw [he] at e
    simp [Value.ownBlock] at e
    subst e
    exact own_ne hm hgg hg.symm
theorem list_cert {P : Program} {ops : Array Oper} {rest : List Oper} {o : Oper} {a : Act} {Q : Exit → Act → World → Prop} (hgd : o.guard = none) (s x : Operand) (t : TypeId)
    (ho : o.op = .call { callee := .builtin .append, args := #[s, x], argTypes := #[t, t] }) (i : TypeInfo) (ht : P.underlying t = some (.slice 87)) (hi : P.info? 87 = some i) (hz : i.zero = some (.agg #[.string ⟨#[]⟩, .slice none 0 0]))
    (hsize : i.size = 2) (hby : i.bytes = 40) (B : Nat) (w0 W : World) (v : Value) (ps : List (Ct × Value)) (p : Ct × Value) (hp1 : p.2.oneCell' = true) (hs : a.eval s = v) (hown : OwnC W B v ps) (hpo : OwnM W B p.2 p.1.ms) (hap : ∀ q ∈ ps, ∀ g, q.2.ownBlock = some g → p.2.ownBlock ≠ some g) (hg0 : Below B w0 W) (hB : B ≤ W.heap.size)
    (gx : Nat) (hx : a.eval x = .slice (some ⟨gx, 0, none⟩) 1 1) (hgx : W.heap.size = gx) (hlen : ps.length ≤ 1000000)
    (h : ∀ v' w', OwnC w' B v' (ps ++ [p]) → Below B w0 w' → Kq W w' v v' → wpList P ops Q rest (a.put o.dst v') w') : wpList P ops Q (o :: rest) a (W.alloc (.cells #[.string p.1.bd, p.2] 87)) := by
  subst hgx
  have hown' := hown.below (bel_new W (.cells #[.string p.1.bd, p.2] 87))
  refine wpList_append_own_at (P := P) _ hgd s x t ho B 87 i _ 2 40 ht hi hz hsize hby rfl (by decide) v ps.length _ hs hown'.row ⟨W.heap.size, 0, none⟩ 1 1 (cc p) hx rfl ?_ ?_ (by unfold maxLen; omega) (by omega) (by simp; omega) ?_
  · intro j u hj
    have h2 : (⟨W.heap.size, 0, none⟩ : Addr).add j = ⟨W.heap.size, j, none⟩ := by unfold Addr.add; split <;> simp_all
    rw [h2, Joins.cell_of_block (heap_alloc_new W _), ← hj]
    simp [cc]
  · intro u hu
    unfold cc at hu
    simp at hu
    rcases hu with rfl | rfl
    · rfl
    · exact hp1
  · intro v' w' h1 h2 h3 h4
    have hK : Kq W w' v v' := fun k hk hn => ⟨(h2.block k (by simp; omega) hn).trans (Below.heap_alloc W _ k hk), fun e => by
      rcases h4 with h4 | h4
      · exact hn (e.trans h4)
      · rw [h4] at e
        simp at e
        omega⟩
    have hmk : ∀ q : Ct × Value, OwnM W B q.2 q.1.ms → OwnM w' B q.2 q.1.ms := fun q hq => hq.kept fun g hg => (hK g (hq.lt g hg).2 (row_ne hown.row hq g hg)).1
    refine h v' w' ⟨?_, ?_, ?_⟩ ((hg0.alloc hB _).grown h2 (by simp; omega) (fun k hk => (hown'.lt k hk).1)) hK
    · rw [List.flatMap_append, List.length_append]; simpa using h1
    · intro q hq
      rcases List.mem_append.1 hq with hq | hq
      · exact hmk q (hown.mem q hq)
      · simp at hq; subst hq; exact hmk _ hpo
    · rw [List.pairwise_append]
      refine ⟨hown.apart, List.pairwise_singleton _ _, fun q hq r hr => ?_⟩
      simp at hr
      subst hr
      exact hap q hq
end Go.Proofs.YtondmbeccpekiaaGreatDoor.Wc

/- The certificates that a view change brings: the program's walks. -/
namespace Go.Proofs.YtondmbeccpekiaaGreatDoor.Wc
open Go.RowKit Go.Proofs.YtondmbeccpekiaaGreatDoor.Sl Go.Proofs.YtondmbeccpekiaaGreatDoor.By Go.Proofs.YtondmbeccpekiaaGreatDoor.Ap Go.Proofs.YtondmbeccpekiaaGreatDoor.Gm Go.Proofs.YtondmbeccpekiaaGreatDoor.Si Go.Proofs.YtondmbeccpekiaaGreatDoor.Tm Go.Proofs.YtondmbeccpekiaaGreatDoor.Ms Go.Proofs.YtondmbeccpekiaaGreatDoor.Sh Go.Proofs.YtondmbeccpekiaaGreatDoor.Vt Go.Proofs.YtondmbeccpekiaaGreatDoor.Mp Go.Proofs.YtondmbeccpekiaaGreatDoor.Rq
open Go.Proofs.YtondmbeccpekiaaGreatDoor.Rc (OwnM OwnM.row OwnM.kept OwnM.lt OwnM.below OwnM.mono rcOK rcBd rcMs rcCode rc_no own_ne Kq implReadCert_any bytes_run)
open Go.Proofs.YtondmbeccpekiaaGreatDoor.Ty (RowT tnth)
open Go.Proofs.YtondmbeccpekiaaGreatDoor.Bd (dOut)
open Go.Proofs.YtondmbeccpekiaaGreatDoor.Rl (rdC rdL implReadList_any)
open Go.Proofs.YtondmbeccpekiaaGreatDoor.Rg (RowG RowG.slice RowG.at lt_at mem_at blk_cell blk_set bel_new)

theorem rc_code {xs : List Int} (h : rcOK xs = false) : (rcCode xs != 0) = true := by
  rw [(rc_no h).2.2]
  by_cases h0 : rdC xs = 0
  · rw [if_pos h0]; rfl
  · rw [if_neg h0]; simp [h0]
theorem rc_code0 {xs : List Int} (h : rcOK xs = true) : rcCode xs = 0 := by unfold rcCode; rw [if_pos h]
theorem map_take {ts : List ByteArray} {k : Nat} {t : ByteArray} (h : ts[k]? = some t) : (ts.take (k + 1)).map ct = (ts.take k).map ct ++ [ct t] := by
  rw [List.take_add_one, h]; simp
set_option maxRecDepth 100000 in
set_option maxHeartbeats 3200000 in
theorem risingCerts_any (n view : Int) (v : Value) (ts : List ByteArray) (w : World) (h : RowT w v ts) (hl : ts.length ≤ 65535) (hs : ∀ t ∈ ts, t.size ≤ 65535) (hK : KTab w) (hp : 0 < w.heap.size) :
    Calls Tryz.prog 168 #[.int .i64 n, .int .i64 view, v] w fun e w' => ∃ u, e = .returned (.tuple #[u, .bool (rsB n view ts)]) ∧ (rsB n view ts = true → ∃ ps, ps.map (·.1) = ts.map ct ∧ OwnC w' w.heap.size u ps) ∧ Below w.heap.size w w' := by
  obtain ⟨i0, hi0, hz0, hz1, hz2⟩ := info_parts info_c
  have HR : Hid (RowT w v ts) := h
  have GK : Hid (∀ W, Below w.heap.size w W → KTab W ∧ 0 < W.heap.size) := fun W hW => ⟨hK.below hW hp, Nat.lt_of_lt_of_le hp hW.size⟩
  have HS : Hid (∀ t ∈ ts, t.size ≤ 65535) := hs
  obtain ⟨a, cap, rfl, _⟩ := h
  clear hs hK hp
  go_enter Tryz.func168, Tryz.ntmps168
  go_wp2_with fail
  go_loopw [8, 9, 17] (fun b l i wr => ∃ (k : Nat) (ps : List (Ct × Value)), k ≤ ts.length ∧ l = .int .i64 (lastS ts k) ∧ i = .int .i64 k ∧ Hid (GoodC n view ts k ∧ ps.map (·.1) = (ts.take k).map ct ∧ OwnC wr w.heap.size b ps ∧ Below w.heap.size w wr)) (fun _ _ i _ => ts.length - (intOf i).toNat)
  case atStart => exact ⟨0, [], by omega, rfl, rfl, ⟨GoodC.zero n view ts, rfl, OwnC.nil _ _, Below.refl _ _⟩⟩
  case round =>
    obtain ⟨k, ps, hk, rfl, rfl, HZ⟩ := hrel
    obtain ⟨v0, rfl⟩ : ∃ v0, v0 = u8 := ⟨_, rfl⟩
    by_cases hlt : k < ts.length
    · obtain ⟨a', cap', he, hc⟩ := HR.out.below HZ.out.2.2.2
      rcases hc with hc | ⟨b, off, rfl, _, hbl, hcell⟩
      · exact absurd hlt (by rw [hc]; simp)
      cases he
      have c0 := hcell k hlt
      have HTT : Hid (ts[k]? = some (tnth ts k)) := Rc.at_some hlt
      have HONE : Hid (OneC n view ts k ↔ (okC n (tnth ts k) = true ∧ lastS ts k < (hd (ct (tnth ts k))).sq ∧ (hd (ct (tnth ts k))).vw < view)) := Iff.rfl
      have HLS : Hid (lastS ts (k + 1) = (hd (ct (tnth ts k))).sq) := rfl
      have HSZ : Hid ((tnth ts k).size ≤ 65535) := HS.out _ (mem_at HTT.out)
      have HPL : Hid (ps.length ≤ 1000000) := by
        show _ ≤ _
        have := congrArg List.length HZ.out.2.1
        rw [List.length_map, List.length_map, List.length_take] at this
        omega
      have HMT : Hid ((ts.take (k + 1)).map ct = (ts.take k).map ct ++ [ct (tnth ts k)]) := map_take HTT.out
      obtain ⟨L, HL⟩ : ∃ L, Hid (lastS ts k = L) := ⟨_, rfl⟩
      rw [HL.out] at HONE ⊢
      clear hcell HL HTT
      generalize tnth ts k = t at c0 HONE HLS HSZ HMT
      obtain ⟨v2, w2, hcv, r2, b2⟩ := bytes_run t wr
      have HRC0 := implReadCert_any v2 (bys t) w2 r2 (by rw [bys_length]; have := HSZ.out; omega)
      have HRC : Hid (Calls Tryz.prog 186 #[v2] w2 fun e w' => ∃ vp, e = .returned (.tuple #[.agg #[.string (ct t).bd, vp], .int .i64 (rcCode (bys t))]) ∧ OwnM w' w2.heap.size vp (ct t).ms ∧ Below w2.heap.size w2 w') := HRC0
      have HOK : Hid (okC n t = (rcOK (bys t) && crtB n (ct t).bd (ct t).ms)) := rfl
      have HHD : Hid (okC n t = true → (ct t).ms[0]? = some (hd (ct t))) := fun h => (ok_hd h).1
      have HBS : Hid ((ct t).bd.size ≤ 1048576 ∧ (ct t).ms.length ≤ 1048576) := by
        constructor
        · show (rcBd (bys t)).size ≤ _
          unfold rcBd
          split
          · have hz := Rc.rdL_size (bys t) (bys_range t)
            split
            · show (0 : Nat) ≤ _; omega
            · rename_i t' ts' e
              have := hz t' (by rw [e]; exact List.mem_cons_self)
              omega
          · show (0 : Nat) ≤ _; omega
        · show (rcMs (bys t)).length ≤ _
          have : (rcMs (bys t)).length ≤ 65535 := by
            unfold rcMs
            split
            · have hz := Rl.rdL_small (bys t) (bys_range t)
              split
              · show (0 : Nat) ≤ _; omega
              · rename_i t' ts' e
                rw [e] at hz
                unfold Rc.msOf
                rw [List.length_map]
                simp at hz
                omega
            · show (0 : Nat) ≤ _; omega
          omega
      have B2 : Hid (Below wr.heap.size wr w2) := b2
      have HCD := @rc_code (bys t)
      have HCE := @rc_code0 (bys t)
      clear HRC0 r2 b2 HSZ
      generalize ct t = c at HRC HOK HHD HBS HMT HONE HLS
      generalize rcCode (bys t) = cd at HRC HCD HCE
      generalize rcOK (bys t) = ok1 at HOK HCD HCE
      generalize okC n t = okt at HOK HHD HONE
      cases ok1 with
      | false =>
        have hcd := HCD rfl
        have HF : Hid (rsB n view ts = false) := rs_no hlt (fun hh => by have := (HONE.out.1 hh).1; rw [HOK.out] at this; cases this)
        clear HCD HCE
        go_wp2_with fail
        refine HRC.out.mono ?_
        rintro e w3 ⟨vp, rfl, o3, b3⟩
        obtain ⟨va, vcap, rfl⟩ := own_slice o3
        have HA : Hid (∀ o, Below w.heap.size w (w3.alloc o)) := fun o => by
          have b := HZ.out.2.2.2.trans ((B2.out.trans (b3.mono B2.out.size)).mono HZ.out.2.2.2.size)
          exact b.alloc b.size o
        clear o3 b3
        go_wp2_with fail
        go_ret2
        exact ⟨_, ret_vb HF.out.symm, fun hh => absurd (HF.out.symm.trans hh) (by decide), HA.out _⟩
      | true =>
        obtain rfl := HCE rfl
        rw [Bool.true_and] at HOK
        clear HCD HCE
        go_wp2_with fail
        refine HRC.out.mono ?_
        rintro e w3 ⟨vp, rfl, o3, b3⟩
        obtain ⟨va, vcap, rfl⟩ := own_slice o3
        have B3 : Hid (Below wr.heap.size wr w3) := B2.out.trans (b3.mono B2.out.size)
        have HX : Hid (∀ W, Below (w3.alloc (.cells #[.string c.bd, .slice va c.ms.length vcap] 87)).heap.size (w3.alloc (.cells #[.string c.bd, .slice va c.ms.length vcap] 87)) W → W.cell? ⟨w3.heap.size, 0, none⟩ = some (.string c.bd) ∧ W.cell? ⟨w3.heap.size, 1, none⟩ = some (.slice va c.ms.length vcap) ∧ OwnM W w2.heap.size (.slice va c.ms.length vcap) c.ms ∧ Below wr.heap.size wr W) := fun W hW => by
          have h1 := (hW.block w3.heap.size (by simp)).trans (heap_alloc_new w3 _)
          exact ⟨(blk_cell h1 0 rfl).1, (blk_cell h1 1 rfl).1, (o3.below (bel_new _ _)).below hW, B3.out.trans (((bel_new w3 _).trans (hW.mono (by simp))).mono B3.out.size)⟩
        clear o3 b3
        have HWB : Hid (∀ W, Below wr.heap.size wr W → Below w.heap.size w W) := fun W hW => HZ.out.2.2.2.trans (hW.mono HZ.out.2.2.2.size)
        have HCK : Hid (∀ W, Below wr.heap.size wr W → OwnM W w2.heap.size (.slice va c.ms.length vcap) c.ms → Calls Tryz.prog 132 #[.int .i64 n, .agg #[.string c.bd, .slice va c.ms.length vcap]] W fun e w' => e = .returned (.bool okt) ∧ Below W.heap.size W w') := fun W hW ho => by
          have g := GK.out W (HWB.out W hW)
          rw [HOK.out]
          exact implCertOK_any n c.bd _ c.ms W ho.row HBS.out.2 HBS.out.1 g.1 g.2
        cases okt with
        | false =>
          have HF : Hid (rsB n view ts = false) := rs_no hlt (fun hh => by have := (HONE.out.1 hh).1; cases this)
          go_wp2_with fail
          generalize w3.alloc (.cells #[.string c.bd, .slice va c.ms.length vcap] 87) = wb at HX ⊢
          obtain ⟨_, _, x2, x3⟩ := HX.out wb (Below.refl _ _)
          refine (HCK.out _ x3 x2).mono ?_
          rintro e w4 ⟨rfl, b4⟩
          have G4 : Hid (Below w.heap.size w w4) := HWB.out _ (HX.out _ b4).2.2.2
          clear b4 x2 x3
          go_wp2_with fail
          go_ret2
          exact ⟨_, ret_vb HF.out.symm, fun hh => absurd (HF.out.symm.trans hh) (by decide), G4.out⟩
        | true =>
          have HH0 := HHD.out rfl
          have HBL : Hid (∀ W, Below wr.heap.size wr W → OwnM W w2.heap.size (.slice va c.ms.length vcap) c.ms → Calls Tryz.prog 133 #[.agg #[.string c.bd, .slice va c.ms.length vcap]] W fun e w' => e = .returned (.agg #[.int .i64 (hd c).vw, .int .i64 (hd c).sq, .string (dOut c.bd)]) ∧ Below W.heap.size W w') := fun W hW ho => by
            have g := GK.out W (HWB.out W hW)
            exact ballotOf_any c.bd _ c.ms (hd c) W ho.row HH0 g.1 g.2
          generalize dOut c.bd = dd at HBL
          have HONE2 : Hid (OneC n view ts k ↔ (L < (hd c).sq ∧ (hd c).vw < view)) := by
            show _ ↔ _
            rw [HONE.out]; simp
          obtain ⟨cv, HCV⟩ : ∃ cv, Hid ((hd c).vw = cv) := ⟨_, rfl⟩
          obtain ⟨cs, HCS⟩ : ∃ cs, Hid ((hd c).sq = cs) := ⟨_, rfl⟩
          rw [HCV.out, HCS.out] at HBL HONE2
          rw [HCS.out] at HLS
          clear HH0 HONE HHD
          go_wp2_with fail
          generalize w3.alloc (.cells #[.string c.bd, .slice va c.ms.length vcap] 87) = wb at HX ⊢
          obtain ⟨_, _, x2, x3⟩ := HX.out wb (Below.refl _ _)
          refine (HCK.out _ x3 x2).mono ?_
          rintro e w4 ⟨rfl, b4⟩
          have B4 : Hid (Below wb.heap.size wb w4) := b4
          obtain ⟨y0, y1, y2, y3⟩ := HX.out _ b4
          have Y2 : Hid (OwnM w4 w2.heap.size (.slice va c.ms.length vcap) c.ms ∧ Below wr.heap.size wr w4) := ⟨y2, y3⟩
          clear b4 x2 x3 y2 y3
          go_wp2_with fail
          refine (HBL.out _ Y2.out.2 Y2.out.1).mono ?_
          rintro e w5 ⟨rfl, b5⟩
          have B5 : Hid (Below wb.heap.size wb w5) := B4.out.trans (b5.mono B4.out.size)
          have HY : Hid (∀ o, (w5.alloc o).cell? ⟨w3.heap.size, 0, none⟩ = some (.string c.bd) ∧ (w5.alloc o).cell? ⟨w3.heap.size, 1, none⟩ = some (.slice va c.ms.length vcap) ∧ OwnM (w5.alloc o) w2.heap.size (.slice va c.ms.length vcap) c.ms ∧ Below wr.heap.size wr (w5.alloc o)) := fun o => HX.out _ (B5.out.alloc B5.out.size o)
          clear b5 y0 y1 Y2
          by_cases h1 : cs ≤ L
          · have h1' : decide (cs ≤ L) = true := decide_eq_true h1
            have HF : Hid (rsB n view ts = false) := rs_no hlt (fun hh => by have := (HONE2.out.1 hh).1; omega)
            clear h1
            go_wp2_with fail
            go_ret2
            exact ⟨_, ret_vb HF.out.symm, fun hh => absurd (HF.out.symm.trans hh) (by decide), HWB.out _ (HY.out _).2.2.2⟩
          · have h1' : decide (cs ≤ L) = false := decide_eq_false h1
            by_cases h2 : view ≤ cv
            · have h2' : decide (view ≤ cv) = true := decide_eq_true h2
              have HF : Hid (rsB n view ts = false) := rs_no hlt (fun hh => by have := (HONE2.out.1 hh).2; omega)
              clear h1 h2
              go_wp2_with fail
              go_ret2
              exact ⟨_, ret_vb HF.out.symm, fun hh => absurd (HF.out.symm.trans hh) (by decide), HWB.out _ (HY.out _).2.2.2⟩
            · have h2' : decide (view ≤ cv) = false := decide_eq_false h2
              have HG2 : Hid (GoodC n view ts (k + 1)) := HZ.out.1.succ (HONE2.out.2 ⟨by omega, by omega⟩)
              clear h1 h2
              have HY6 : Hid ((w5.alloc (.cells #[.int .i64 cv, .int .i64 cs, .string dd] 178)).cell? ⟨w3.heap.size, 0, none⟩ = some (.string c.bd) ∧ (w5.alloc (.cells #[.int .i64 cv, .int .i64 cs, .string dd] 178)).cell? ⟨w3.heap.size, 1, none⟩ = some (.slice va c.ms.length vcap) ∧ OwnM (w5.alloc (.cells #[.int .i64 cv, .int .i64 cs, .string dd] 178)) w2.heap.size (.slice va c.ms.length vcap) c.ms ∧ Below wr.heap.size wr (w5.alloc (.cells #[.int .i64 cv, .int .i64 cs, .string dd] 178))) := HY.out _
              go_upto_region 13 with fail
              generalize w5.alloc (.cells #[.int .i64 cv, .int .i64 cs, .string dd] 178) = w6 at HY6 ⊢
              obtain ⟨q0, q1, _, _⟩ := HY6.out
              have O6 : Hid (OwnC w6 w.heap.size v0 ps ∧ Below w.heap.size w w6 ∧ OwnM w6 w.heap.size (.slice va c.ms.length vcap) c.ms) := ⟨HZ.out.2.2.1.below HY6.out.2.2.2, HWB.out _ HY6.out.2.2.2, HY6.out.2.2.1.mono (Nat.le_trans HZ.out.2.2.2.size B2.out.size)⟩
              have HAP : Hid (∀ q ∈ ps, ∀ g, q.2.ownBlock = some g → (Value.slice va c.ms.length vcap).ownBlock ≠ some g) := fun q hq g hg e => by
                have h1 := ((HZ.out.2.2.1.mem q hq).lt g hg).2
                have h2 := (HY6.out.2.2.1.lt g e).1
                have := B2.out.size
                omega
              have HMM : Hid ((ps ++ [(c, Value.slice va c.ms.length vcap)]).map (·.1) = (ts.take (k + 1)).map ct) := by show _ = _; rw [List.map_append, HZ.out.2.1, HMT.out]; rfl
              go_wp2_with (at_builtin; go_must (refine list_cert (by rfl) _ _ 53 (by rfl) i0 Tryz.underlying53 hi0 hz0 hz1 hz2 w.heap.size w w6 _ ps (c, .slice va c.ms.length vcap) (by rfl) (by rfl) O6.out.1 O6.out.2.2 HAP.out O6.out.2.1 O6.out.2.1.size _ (by rfl) (by rfl) HPL.out ?_; intro v7 w7 o7 b7 _))
              exact ⟨⟨k + 1, ps ++ [(c, .slice va c.ms.length vcap)], by omega, by rw [HLS.out], by go_num, ⟨HG2.out, HMM.out, o7, b7⟩⟩, by simp [intOf]; omega⟩
    · obtain rfl : k = ts.length := by omega
      have HF : Hid (rsB n view ts = true) := rs_yes HZ.out.1
      have HP : Hid (∃ ps, ps.map (·.1) = ts.map ct ∧ OwnC wr w.heap.size v0 ps) := ⟨ps, by have := HZ.out.2.1; rw [List.take_length] at this; exact this, HZ.out.2.2.1⟩
      go_wp2_with fail
      go_ret2
      exact ⟨_, ret_vb HF.out.symm, fun _ => HP.out, HZ.out.2.2.2⟩
noncomputable def cfB (n view : Int) (x : Mg) : Bool := bOf (sg n x = true ∧ x.kd = 4 ∧ x.vw = view ∧ view ≠ 0 ∧ rdC (bys x.bd) = 0 ∧ rsB n view (rdL (bys x.bd)) = true)
noncomputable def crts (x : Mg) : List Ct := (rdL (bys x.bd)).map ct
theorem taV (v : Value) (W : World) : (Instr.typeAssert (.iface 229 v) 199 229 true).run Tryz.prog W = .ok (.tuple #[v, .bool true]) W := by
  simp [Instr.typeAssert, go_sem]
theorem taN (v : Value) (W : World) : (Instr.typeAssert (.iface 226 v) 199 229 true).run Tryz.prog W = .ok (.tuple #[.agg #[.int .i64 0, .int .i64 0, .string ⟨#[]⟩], .bool false]) W := by
  have hz : (zeroValue 229).run Tryz.prog W = .ok (.agg #[.int .i64 0, .int .i64 0, .string ⟨#[]⟩]) W := by kernel_rfl
  simp [Instr.typeAssert, go_sem, hz]
theorem taZ (W : World) : (Instr.typeAssert .nilIface 199 229 true).run Tryz.prog W = .ok (.tuple #[.agg #[.int .i64 0, .int .i64 0, .string ⟨#[]⟩], .bool false]) W := by
  have hz : (zeroValue 229).run Tryz.prog W = .ok (.agg #[.int .i64 0, .int .i64 0, .string ⟨#[]⟩]) W := by kernel_rfl
  simp [Instr.typeAssert, go_sem, hz]
set_option maxRecDepth 100000 in
set_option maxHeartbeats 1600000 in
theorem certsOf_any (n view : Int) (x : Mg) (w : World) (hz : x.bd.size ≤ 1048576) (hK : KTab w) (hp : 0 < w.heap.size) :
    Calls Tryz.prog 148 #[.int .i64 n, .int .i64 view, votV n x] w fun e w' => ∃ u, e = .returned (.tuple #[u, .bool (cfB n view x)]) ∧ (cfB n view x = true → ∃ ps, ps.map (·.1) = crts x ∧ OwnC w' w.heap.size u ps) ∧ Below w.heap.size w w' := by
  have HA : Hid (∀ o, Below w.heap.size w (w.alloc o)) := fun o => bel_new w o
  by_cases hv : sg n x = true ∧ x.kd = 4
  · have e : votV n x = .iface 229 (.agg #[.int .i64 x.fr, .int .i64 x.vw, .string x.bd]) := by unfold votV; rw [if_pos hv.1, if_neg (by omega), if_pos hv.2]; rfl
    rw [e]
    have hta := fun v => taV v w
    by_cases h1 : x.vw = view
    · have h1' : (x.vw != view) = false := by simp [h1]
      by_cases h2 : view = 0
      · have h2' : (view == 0) = true := by simp [h2]
        have HF : Hid (cfB n view x = false) := bOf_false fun h => h.2.2.2.1 h2
        clear h1 h2 hv e
        go_enter Tryz.func148, Tryz.ntmps148
        go_wp2_with fail
        go_ret2
        exact ⟨_, ret_vb HF.out.symm, fun hh => absurd (HF.out.symm.trans hh) (by decide), HA.out _⟩
      · have h2' : (view == 0) = false := by simp [h2]
        have HCF : Hid (cfB n view x = bOf (rdC (bys x.bd) = 0 ∧ rsB n view (rdL (bys x.bd)) = true)) := by
          show _ = _
          refine (bOf_eq ?_).symm
          rw [bOf_iff]
          exact ⟨fun h => ⟨hv.1, hv.2, h1, h2, h.1, h.2⟩, fun h => ⟨h.2.2.2.2.1, h.2.2.2.2.2⟩⟩
        have HCR : Hid (crts x = (rdL (bys x.bd)).map ct) := rfl
        have HRS : Hid (∀ t ∈ rdL (bys x.bd), t.size ≤ 65535) := Rc.rdL_size (bys x.bd) (bys_range x.bd)
        have HRN : Hid ((rdL (bys x.bd)).length ≤ 65535) := Rl.rdL_small (bys x.bd) (bys_range x.bd)
        have GK : Hid (∀ W, Below w.heap.size w W → KTab W ∧ 0 < W.heap.size) := fun W hW => ⟨hK.below hW hp, Nat.lt_of_lt_of_le hp hW.size⟩
        obtain ⟨v2, w2, hcv, r2, b2⟩ := bytes_run x.bd (w.alloc (.cells #[.int .i64 x.fr, .int .i64 x.vw, .string x.bd] 229))
        have HRL0 := implReadList_any v2 (bys x.bd) w2 r2 (by rw [bys_length]; omega)
        have B2 : Hid (Below w.heap.size w w2) := (HA.out _).trans (b2.mono (HA.out _).size)
        generalize rdL (bys x.bd) = ts at HRL0 HCF HCR HRS HRN
        generalize rdC (bys x.bd) = rc at HRL0 HCF
        have HRL : Hid (Calls Tryz.prog 167 #[v2] w2 fun e w' => ∃ v', e = .returned (.tuple #[v', .int .i64 rc]) ∧ Tl.OwnS w' w2.heap.size v' ts ∧ Below w2.heap.size w2 w') := HRL0
        clear h1 h2 hv e r2 b2 HRL0 hK hp
        by_cases hrc : rc = 0
        · subst hrc
          have HCF2 : Hid (cfB n view x = rsB n view ts) := by
            show _ = _
            rw [HCF.out]
            refine (bOf_eq ?_).symm
            simp
          go_enter Tryz.func148, Tryz.ntmps148
          go_wp2_with fail
          refine HRL.out.mono ?_
          rintro e w3 ⟨v3, rfl, o3, b3⟩
          have B3 : Hid (Below w.heap.size w w3) := B2.out.trans (b3.mono B2.out.size)
          have HRI : Hid (Calls Tryz.prog 168 #[.int .i64 n, .int .i64 view, v3] w3 fun e w' => ∃ u, e = .returned (.tuple #[u, .bool (rsB n view ts)]) ∧ (rsB n view ts = true → ∃ ps, ps.map (·.1) = ts.map ct ∧ OwnC w' w3.heap.size u ps) ∧ Below w3.heap.size w3 w') := by
            have g := GK.out _ B3.out
            exact risingCerts_any n view v3 ts w3 (Tl.OwnS.row o3) HRN.out HRS.out g.1 g.2
          clear o3 b3
          obtain ⟨q, HQ⟩ : ∃ q, Hid (rsB n view ts = q) := ⟨_, rfl⟩
          rw [HQ.out] at HRI HCF2
          go_wp2_with fail
          refine HRI.out.mono ?_
          rintro e w4 ⟨u, rfl, o4, b4⟩
          have B4 : Hid (Below w.heap.size w w4) := B3.out.trans (b4.mono B3.out.size)
          have O4 : Hid (q = true → ∃ ps, ps.map (·.1) = crts x ∧ OwnC w4 w.heap.size u ps) := fun h => by
            obtain ⟨ps, h1, h2⟩ := o4 h
            exact ⟨ps, by rw [HCR.out]; exact h1, ⟨row_mono h2.row B3.out.size, fun p hp => (h2.mem p hp).mono B3.out.size, h2.apart⟩⟩
          clear o4 b4
          go_wp2_with fail
          go_ret2
          exact ⟨_, ret_vb HCF2.out.symm, fun hh => O4.out (HCF2.out.symm.trans hh), B4.out⟩
        · have hrc' : (rc != 0) = true := by simp [hrc]
          have HF : Hid (cfB n view x = false) := by show _ = _; rw [HCF.out]; exact bOf_false fun h => hrc h.1
          clear hrc
          go_enter Tryz.func148, Tryz.ntmps148
          go_wp2_with fail
          refine HRL.out.mono ?_
          rintro e w3 ⟨v3, rfl, o3, b3⟩
          have B3 : Hid (Below w.heap.size w w3) := B2.out.trans (b3.mono B2.out.size)
          clear o3 b3
          go_wp2_with fail
          go_ret2
          exact ⟨_, ret_vb HF.out.symm, fun hh => absurd (HF.out.symm.trans hh) (by decide), B3.out⟩
    · have h1' : (x.vw != view) = true := by simp [h1]
      have HF : Hid (cfB n view x = false) := bOf_false fun h => h1 h.2.2.1
      clear h1 hv e
      go_enter Tryz.func148, Tryz.ntmps148
      go_wp2_with fail
      go_ret2
      exact ⟨_, ret_vb HF.out.symm, fun hh => absurd (HF.out.symm.trans hh) (by decide), HA.out _⟩
  · have HF : Hid (cfB n view x = false) := bOf_false fun h => hv ⟨h.1, h.2.1⟩
    have HE : votV n x = .nilIface ∨ votV n x = .iface 226 (.agg #[.int .i64 x.fr, .int .i64 x.vw, .int .i64 x.sq, .string x.dg]) := by
      unfold votV
      by_cases hs : sg n x = true
      · rw [if_pos hs]
        by_cases h2 : x.kd = 2
        · rw [if_pos h2]; exact .inr rfl
        · rw [if_neg h2, if_neg (fun h4 => hv ⟨hs, h4⟩)]; exact .inl rfl
      · rw [if_neg hs]; exact .inl rfl
    rcases HE with e | e
    · rw [e]
      have hta := taZ w
      clear hv e
      go_enter Tryz.func148, Tryz.ntmps148
      go_wp2_with fail
      go_ret2
      exact ⟨_, ret_vb HF.out.symm, fun hh => absurd (HF.out.symm.trans hh) (by decide), HA.out _⟩
    · rw [e]
      have hta := fun v => taN v w
      clear hv e
      go_enter Tryz.func148, Tryz.ntmps148
      go_wp2_with fail
      go_ret2
      exact ⟨_, ret_vb HF.out.symm, fun hh => absurd (HF.out.symm.trans hh) (by decide), HA.out _⟩
end Go.Proofs.YtondmbeccpekiaaGreatDoor.Wc
