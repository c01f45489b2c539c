/- While the specification reads a table: what is known of memory. -/
import Derived.Test.YtkjbdemhpnhagaaUw
namespace Go.Proofs.Ytkjbdemhpnhagaa.Us
open Go.RowKit Go.Proofs.Ytkjbdemhpnhagaa.Sl Go.Proofs.Ytkjbdemhpnhagaa.By Go.Proofs.Ytkjbdemhpnhagaa.Ap Go.Proofs.Ytkjbdemhpnhagaa.Rr Go.Proofs.Ytkjbdemhpnhagaa.Tb Go.Proofs.Ytkjbdemhpnhagaa.Tw
open Go.Proofs.Ytkjbdemhpnhagaa.Ur (nv itR itS itL itL_len itR_succ itS_succ itL_succ Less wtO wtR wtS lkO lkR lkS lkS3 lk3 snO snR snS sn5 cnt tbO tbR tbS tbA tbB tbC tb2 tbS1 tbS2 Mem Apart pair_snoc)
open Go.Proofs.Ytkjbdemhpnhagaa.Wa (OwnW OwnS clW oneW clS oneS infoS infoW)
open Go.Proofs.Ytkjbdemhpnhagaa.Lo (LkA uV clL oneL OwnL own_block kind_ne infoL)

/-- Once short, always short. -/
theorem itS_true {f : List Int → List Int} {g : List Int → Bool → Bool} (hg : ∀ xs, g xs true = true) (xs : List Int) (sh : Bool) {k n : Nat} (hk : k ≤ n) (h : itS f g k xs sh = true) : itS f g n xs sh = true := by
  induction n with
  | zero => obtain rfl : k = 0 := by omega
            exact h
  | succ n ih =>
    by_cases e : k = n + 1
    · rw [← e]; exact h
    · rw [itS_succ, ih (by omega)]; exact hg _
theorem wtS_true (xs : List Int) : wtS xs true = true := rfl
theorem lkS_true (xs : List Int) : lkS xs true = true := by
  unfold lkS
  have e : tkS 1 (lk3 xs) (lkS3 xs true) = true := rfl
  rw [e]
  exact itS_true wtS_true _ true (Nat.zero_le _) rfl
theorem snS_true (xs : List Int) : snS xs true = true := rfl
theorem Mem.setq {W : World} {B : Nat} {v2 v3 : Value} {ms : List LkA} {ss : List Sn} (h : Mem W B v2 v3 ms ss) {q : Nat} {cs : Array Value} {t : TypeId} (hq : W.heap[q]? = some (.cells cs t (0, 0))) (h1 : 37 ≠ t) (h2 : 61 ≠ t) (h3 : 65 ≠ t) (i : Nat) (v : Value) : Mem (W.setCell ⟨q, i, none⟩ v) B v2 v3 ms ss :=
  ⟨h.ol.kept fun g hg => blk_far (by obtain ⟨c, e⟩ := own_block h.ol hg; exact kind_ne e hq h1) i v, fun m hm => (h.ow m hm).kept fun g hg => blk_far (by obtain ⟨c, e⟩ := own_block (h.ow m hm) hg; exact kind_ne e hq h2) i v, h.di, h.os.kept fun g hg => blk_far (by obtain ⟨c, e⟩ := own_block h.os hg; exact kind_ne e hq h3) i v⟩
/-- All rows lie below a block. -/
structure Low (N : Nat) (v2 v3 : Value) (ms : List LkA) : Prop where
  l : ∀ g, v2.ownBlock = some g → g < N
  s : ∀ g, v3.ownBlock = some g → g < N
  w : ∀ m ∈ ms, ∀ g, (uV m).ownBlock = some g → g < N
theorem Mem.low {W : World} {B : Nat} {v2 v3 : Value} {ms : List LkA} {ss : List Sn} (h : Mem W B v2 v3 ms ss) : Low W.heap.size v2 v3 ms :=
  ⟨fun g hg => (h.ol.lt g hg).2, fun g hg => (h.os.lt g hg).2, fun m hm g hg => ((h.ow m hm).lt g hg).2⟩
theorem Mem.setn {W : World} {B N : Nat} {v2 v3 : Value} {ms : List LkA} {ss : List Sn} (h : Mem W B v2 v3 ms ss) (hl : Low N v2 v3 ms) {q : Nat} (hq : N ≤ q) (i : Nat) (v : Value) : Mem (W.setCell ⟨q, i, none⟩ v) B v2 v3 ms ss :=
  ⟨h.ol.kept fun g hg => blk_far (by have := hl.l g hg; omega) i v, fun m hm => (h.ow m hm).kept fun g hg => blk_far (by have := hl.w m hm g hg; omega) i v, h.di, h.os.kept fun g hg => blk_far (by have := hl.s g hg; omega) i v⟩
structure Sp (w : World) (tq : Nat) (W : World) (tm nx : Int) (v2 v3 : Value) (ms : List LkA) (ss : List Sn) (xs : List Int) (sh : Bool) : Prop where
  a : W.heap[w.heap.size]? = some (.cells #[.int .i64 0, .int .i64 0, .slice none 0 0, .slice none 0 0] 31 (0, 0))
  rd : Rdp W (w.heap.size + 1) xs sh
  t : W.heap[tq]? = some (.cells #[.int .i64 tm, .int .i64 nx, v2, v3] 31 (0, 0))
  g : Below w.heap.size w W
  me : Mem W (w.heap.size + 2) v2 v3 ms ss
  tl : w.heap.size + 2 ≤ tq
section
variable {w wr W W' : World} {tq : Nat} {tm nx : Int} {v2 v3 : Value} {ms : List LkA} {ss : List Sn} {xs ys : List Int} {sh sb : Bool}
theorem Sp.size (h : Sp w tq W tm nx v2 v3 ms ss xs sh) : tq < W.heap.size := (Array.getElem?_eq_some_iff.1 h.t).1
theorem gb {p B : Nat} (hg : W.grownBy W' (some p)) (hp : p < W.heap.size) (hB : B ≤ p) : Below B W W' := ⟨hg.os, hg.tape, hg.output, hg.size, fun k hk => hg.block k (by omega) (by simp; omega)⟩
theorem Sp.num (h : Sp w tq W tm nx v2 v3 ms ss xs sh) (r : Rdp W' (w.heap.size + 1) ys sb) (g : W.grownBy W' (some (w.heap.size + 1))) : Sp w tq W' tm nx v2 v3 ms ss ys sb :=
  ⟨blk_kept h.a g (by have := h.tl; omega), r, blk_kept h.t g (by have := h.tl; omega), h.g.trans (gb g h.rd.lt (by have := h.tl; omega)), h.me.kept fun k hk hl => g.block k hl (by simp; omega), h.tl⟩
theorem Sp.up (h : Sp w tq W tm nx v2 v3 ms ss xs sh) (hb : Below W.heap.size W W') : Sp w tq W' tm nx v2 v3 ms ss xs sh :=
  ⟨(hb.block _ (Array.getElem?_eq_some_iff.1 h.a).1).trans h.a, h.rd.kept (hb.block _ h.rd.lt), (hb.block _ (Array.getElem?_eq_some_iff.1 h.t).1).trans h.t, h.g.trans (hb.mono h.g.size), h.me.kept fun k _ hl => hb.block k hl, h.tl⟩
theorem Sp.setn {N : Nat} (h : Sp w tq W tm nx v2 v3 ms ss xs sh) (hl : Low N v2 v3 ms) (hN : tq < N) {q : Nat} (hq : N ≤ q) (i : Nat) (v : Value) : Sp w tq (W.setCell ⟨q, i, none⟩ v) tm nx v2 v3 ms ss xs sh :=
  ⟨(blk_far (by have := h.tl; omega) i v).trans h.a, h.rd.kept (blk_far (by have := h.tl; omega) i v), (blk_far (by have := h.tl; omega) i v).trans h.t, Below.setCell h.g (p := ⟨q, i, none⟩) (by show _ ≤ q; have := h.tl; omega) v, Mem.setn h.me hl hq i v, h.tl⟩
theorem Sp.set1 (h : Sp w tq W tm nx v2 v3 ms ss xs sh) (z : Int) : Sp w tq (W.setCell ⟨tq, 1, none⟩ (.int .i64 z)) tm z v2 v3 ms ss xs sh :=
  ⟨(blk_far (by have := h.tl; omega) 1 _).trans h.a, h.rd.kept (blk_far (by have := h.tl; omega) 1 _), blk_set h.t 1 _, Below.setCell h.g (p := ⟨tq, 1, none⟩) (by show _ ≤ tq; have := h.tl; omega) _, Mem.setq h.me h.t (by decide) (by decide) (by decide) 1 _, h.tl⟩
theorem Sp.bad (h : Sp w tq W tm nx v2 v3 ms ss xs sh) : W.cell? ⟨w.heap.size + 1, 1, none⟩ = some (.bool sh) := by
  obtain ⟨s, h1, _⟩ := h.rd
  exact (blk_cell h1 1 (x := .bool sh) rfl).1
theorem Sp.drew (h : Sp w tq W tm nx v2 v3 ms ss xs sh) : Sp w tq W.drew tm nx v2 v3 ms ss xs sh := ⟨h.a, h.rd.kept rfl, h.t, h.g.drew, h.me.kept fun _ _ _ => rfl, h.tl⟩
end
/-- While a lock is read: its block, its waiters. -/
structure Sk (w : World) (tq : Nat) (wr W : World) (q : Nat) (tm nx : Int) (v2 v3 : Value) (ms : List LkA) (ss : List Sn) (kc : Array Value) (u : Value) (ws : List Wt) (xs : List Int) (sh : Bool) : Prop where
  sp : Sp w tq W tm nx v2 v3 ms ss xs sh
  k : W.heap[q]? = some (.cells kc 37 (0, 0))
  ow : OwnW W wr.heap.size u ws
  lo : Low wr.heap.size v2 v3 ms
  qn : tq < wr.heap.size ∧ wr.heap.size ≤ q
section
variable {w wr W W' : World} {tq q : Nat} {tm nx : Int} {v2 v3 : Value} {ms : List LkA} {ss : List Sn} {kc : Array Value} {u : Value} {ws : List Wt} {xs ys : List Int} {sh sb : Bool}
theorem Sk.num (h : Sk w tq wr W q tm nx v2 v3 ms ss kc u ws xs sh) (r : Rdp W' (w.heap.size + 1) ys sb) (g : W.grownBy W' (some (w.heap.size + 1))) : Sk w tq wr W' q tm nx v2 v3 ms ss kc u ws ys sb :=
  ⟨h.sp.num r g, blk_kept h.k g (by have := h.qn; have := h.sp.tl; omega), h.ow.kept fun x hx => g.block x (h.ow.lt x hx).2 (by have := (h.ow.lt x hx).1; have := h.qn; have := h.sp.tl; simp; omega), h.lo, h.qn⟩
theorem Sk.set (h : Sk w tq wr W q tm nx v2 v3 ms ss kc u ws xs sh) (i : Nat) (v : Value) : Sk w tq wr (W.setCell ⟨q, i, none⟩ v) q tm nx v2 v3 ms ss (kc.setIfInBounds i v) u ws xs sh :=
  ⟨h.sp.setn h.lo h.qn.1 h.qn.2 i v, blk_set h.k i v, h.ow.kept fun g hg => blk_far (by obtain ⟨c, e⟩ := own_block h.ow hg; exact kind_ne e h.k (by decide)) i v, h.lo, h.qn⟩
theorem Sk.up (h : Sk w tq wr W q tm nx v2 v3 ms ss kc u ws xs sh) (hb : Below W.heap.size W W') : Sk w tq wr W' q tm nx v2 v3 ms ss kc u ws xs sh :=
  ⟨h.sp.up hb, (hb.block _ (Array.getElem?_eq_some_iff.1 h.k).1).trans h.k, h.ow.below hb, h.lo, h.qn⟩
theorem Sk.drew (h : Sk w tq wr W q tm nx v2 v3 ms ss kc u ws xs sh) : Sk w tq wr W.drew q tm nx v2 v3 ms ss kc u ws xs sh := ⟨h.sp.drew, h.k, h.ow.kept fun _ _ => rfl, h.lo, h.qn⟩
theorem Sk.alloc (h : Sk w tq wr W q tm nx v2 v3 ms ss kc u ws xs sh) (o : Obj) : Sk w tq wr (W.alloc o) q tm nx v2 v3 ms ss kc u ws xs sh := h.up ((Below.refl _ _).alloc (Nat.le_refl _) _)
end
/-- One that waits joined, and is not stored yet. -/
structure Sj (w : World) (tq : Nat) (wr W : World) (q : Nat) (tm nx : Int) (v2 v3 : Value) (ms : List LkA) (ss : List Sn) (kc : Array Value) (u : Value) (ws : List Wt) (xs : List Int) (sh : Bool) : Prop where
  sk : Sk w tq wr W q tm nx v2 v3 ms ss kc u ws xs sh
theorem step_wt {P : Program} {ops : Array Oper} {o : Oper} {a : Act} {K : Act → World → Prop} {Q : Exit → Act → World → Prop} {E : Prop} {i : TypeInfo} (hgd : o.guard = none) (s z : Operand) (t : TypeId) (ho : o.op = .call { callee := .builtin .append, args := #[s, z], argTypes := #[t, t] }) (ht : P.underlying t = some (.slice 61)) (hi : P.info? 61 = some i) (hz : i.zero = some (.agg #[.int .i64 0, .int .i64 0]))
    (hsize : i.size = 2) (hby : i.bytes = 16) (W w wr : World) (tq q : Nat) (tm nx : Int) (v2 v3 : Value) (ms : List LkA) (ss : List Sn) (kc : Array Value) (u : Value) (ws : List Wt) (m : Wt) (xs : List Int) (sh : Bool) (hs : a.eval s = u) (gx : Nat) (hx : a.eval z = .slice (some ⟨gx, 0, none⟩) 1 1) (hbx : W.heap[gx]? = some (.cells #[.int .i64 m.c, .int .i64 m.l] 61 (0, 0)))
    (htb : Sk w tq wr W q tm nx v2 v3 ms ss kc u ws xs sh) (hlen : ws.length ≤ 1000000)
    (h : ∀ v' w', Sj w tq wr w' q tm nx v2 v3 ms ss kc v' (ws ++ [m]) xs sh → K (a.put o.dst v') w') : if Region.wanted o (yielded ops a.tmps) = true then Oper.wp P o a W K Q else E := by
  have hw : Region.wanted o (yielded ops a.tmps) = true := by simp [Region.wanted, hgd]
  rw [if_pos hw]
  have hol := htb.ow
  have hsz : wr.heap.size ≤ W.heap.size := by have := (Array.getElem?_eq_some_iff.1 htb.k).1; have := htb.qn; omega
  obtain ⟨v', w', hr, h2, h3, _, h5⟩ := run_append_own_at (P := P) W wr.heap.size t o.type 61 i _ 2 16 ht hi hz hsize hby rfl (by decide) u ws.length _ hol ⟨gx, 0, none⟩ 1 1 (clW m) rfl (by
    intro j u hj
    have e2 : (⟨gx, 0, none⟩ : Addr).add j = ⟨gx, j, none⟩ := by unfold Addr.add; split <;> simp_all
    rw [e2, Joins.cell_of_block hbx, ← hj]
    simp [clW]) (oneW m) (by unfold maxLen; omega) (by omega) hsz
  have kp : ∀ k, k < W.heap.size → some k ≠ u.ownBlock → w'.heap[k]? = W.heap[k]? := fun k hk hn => h3.block k hk hn
  have ne : ∀ k, k < wr.heap.size → some k ≠ u.ownBlock := fun k hk e => by have := (hol.lt k e.symm).1; omega
  have hsp := htb.sp
  have hq := htb.qn
  refine wp_app ho hs hx hr (h v' w' ⟨⟨⟨(kp _ (by have := hsp.size; have := hsp.tl; omega) (ne _ (by have := hsp.tl; omega))).trans hsp.a, hsp.rd.kept (kp _ hsp.rd.lt (ne _ (by have := hsp.tl; omega))), (kp _ (by have := hsp.size; have := hsp.tl; omega) (ne _ (by have := hsp.tl; omega))).trans hsp.t, ⟨h3.os.trans hsp.g.os, h3.tape.trans hsp.g.tape, h3.output.trans hsp.g.output, Nat.le_trans hsp.g.size h3.size, fun k hk => (kp k (by have := hsp.size; have := hsp.tl; omega) (ne k (by have := hsp.tl; omega))).trans (hsp.g.block k hk)⟩, ?_, hsp.tl⟩, ?_, by unfold OwnW; rw [List.flatMap_append, List.length_append]; simpa using h2, htb.lo, hq⟩⟩)
  · exact ⟨hsp.me.ol.kept fun g hg => kp g (hsp.me.ol.lt g hg).2 (ne g (htb.lo.l g hg)), fun m hm => (hsp.me.ow m hm).kept fun g hg => kp g ((hsp.me.ow m hm).lt g hg).2 (ne g (htb.lo.w m hm g hg)), hsp.me.di, hsp.me.os.kept fun g hg => kp g (hsp.me.os.lt g hg).2 (ne g (htb.lo.s g hg))⟩
  · refine (kp q (Array.getElem?_eq_some_iff.1 htb.k).1 fun e => ?_).trans htb.k
    obtain ⟨c1, e1⟩ := own_block hol e.symm
    exact kind_ne e1 htb.k (by decide) rfl
/-- The lock joins the table. -/
theorem Sk.join {w wr W W' : World} {tq q : Nat} {tm nx : Int} {v2 v3 v' : Value} {ms : List LkA} {ss : List Sn} {kc : Array Value} {xs : List Int} {sh : Bool} {m : LkA} (h : Sk w tq wr W q tm nx v2 v3 ms ss kc (uV m) m.1.ws xs sh) (ol : OwnL W' (w.heap.size + 2) v' (ms ++ [m])) (hb : Below (w.heap.size + 2) W W') (kp : ∀ k, k < W.heap.size → some k ≠ v2.ownBlock → W'.heap[k]? = W.heap[k]?) :
    W'.cell? ⟨tq, 2, none⟩ = some v2 ∧ W'.frozen? ⟨tq, 2, none⟩ = false ∧ Sp w tq (W'.setCell ⟨tq, 2, none⟩ v') tm nx v' v3 (ms ++ [m]) ss xs sh := by
  have hsp := h.sp
  have hz := hsp.size
  have ne4 : ∀ (g : Nat) (cs : Array Value) (t : TypeId), W.heap[g]? = some (.cells cs t (0, 0)) → t ≠ 37 → W'.heap[g]? = W.heap[g]? := fun g cs t hg ht => kp g (Array.getElem?_eq_some_iff.1 hg).1 fun e => by
    obtain ⟨c1, e1⟩ := own_block hsp.me.ol e.symm
    exact kind_ne e1 hg (Ne.symm ht) rfl
  have ht := (ne4 _ _ _ hsp.t (by decide)).trans hsp.t
  obtain ⟨c, f⟩ := blk_cell ht 2 (x := v2) rfl
  have fw : ∀ (B : Nat) (u : Value) (ws : List Wt), OwnW W B u ws → OwnW W' B u ws := fun B u ws hu => hu.kept fun g hg => by
    obtain ⟨c1, e1⟩ := own_block hu hg
    exact ne4 g _ _ e1 (by decide)
  have hm : Mem W' (w.heap.size + 2) v' v3 (ms ++ [m]) ss := by
    refine ⟨ol, fun x hx => ?_, pair_snoc hsp.me.di fun x hx g hg e => ?_, hsp.me.os.kept fun g hg => ?_⟩
    · rcases List.mem_append.1 hx with hx | hx
      · exact fw _ _ _ (hsp.me.ow x hx)
      · rw [List.mem_singleton.1 hx]; exact fw _ _ _ (h.ow.mono (by have := h.qn; have := hsp.tl; omega))
    · have h1 := h.lo.w x hx g hg
      have h2 := (h.ow.lt g e).1
      omega
    · obtain ⟨c1, e1⟩ := own_block hsp.me.os hg
      exact ne4 g _ _ e1 (by decide)
  refine ⟨c, f, ⟨(blk_far (by have := hsp.tl; omega) 2 _).trans ((hb.block _ (by have := hsp.tl; omega)).trans hsp.a), (hsp.rd.kept (hb.block _ (by have := hsp.tl; omega))).kept (blk_far (by have := hsp.tl; omega) 2 _), blk_set ht 2 _, ?_, Mem.setq hm ht (by decide) (by decide) (by decide) 2 _, hsp.tl⟩⟩
  exact Below.setCell (hsp.g.trans (hb.mono (by have := hsp.tl; omega))) (p := ⟨tq, 2, none⟩) (by show _ ≤ tq; have := hsp.tl; omega) _
/-- What was seen joins the table. -/
theorem Sp.joinS {w W W' : World} {tq : Nat} {tm nx : Int} {v2 v3 v' : Value} {ms : List LkA} {ss : List Sn} {xs : List Int} {sh : Bool} {m : Sn} (hsp : Sp w tq W tm nx v2 v3 ms ss xs sh) (os : OwnS W' (w.heap.size + 2) v' (ss ++ [m])) (hb : Below (w.heap.size + 2) W W') (kp : ∀ k, k < W.heap.size → some k ≠ v3.ownBlock → W'.heap[k]? = W.heap[k]?) :
    W'.cell? ⟨tq, 3, none⟩ = some v3 ∧ W'.frozen? ⟨tq, 3, none⟩ = false ∧ Sp w tq (W'.setCell ⟨tq, 3, none⟩ v') tm nx v2 v' ms (ss ++ [m]) xs sh := by
  have hz := hsp.size
  have ne4 : ∀ (g : Nat) (cs : Array Value) (t : TypeId), W.heap[g]? = some (.cells cs t (0, 0)) → t ≠ 65 → W'.heap[g]? = W.heap[g]? := fun g cs t hg ht => kp g (Array.getElem?_eq_some_iff.1 hg).1 fun e => by
    obtain ⟨c1, e1⟩ := own_block hsp.me.os e.symm
    exact kind_ne e1 hg (Ne.symm ht) rfl
  have ht := (ne4 _ _ _ hsp.t (by decide)).trans hsp.t
  obtain ⟨c, f⟩ := blk_cell ht 3 (x := v3) rfl
  have hm : Mem W' (w.heap.size + 2) v2 v' ms (ss ++ [m]) := by
    refine ⟨hsp.me.ol.kept fun g hg => ?_, fun x hx => (hsp.me.ow x hx).kept fun g hg => ?_, hsp.me.di, os⟩
    · obtain ⟨c1, e1⟩ := own_block hsp.me.ol hg
      exact ne4 g _ _ e1 (by decide)
    · obtain ⟨c1, e1⟩ := own_block (hsp.me.ow x hx) hg
      exact ne4 g _ _ e1 (by decide)
  refine ⟨c, f, ⟨(blk_far (by have := hsp.tl; omega) 3 _).trans ((hb.block _ (by have := hsp.tl; omega)).trans hsp.a), (hsp.rd.kept (hb.block _ (by have := hsp.tl; omega))).kept (blk_far (by have := hsp.tl; omega) 3 _), blk_set ht 3 _, ?_, Mem.setq hm ht (by decide) (by decide) (by decide) 3 _, hsp.tl⟩⟩
  exact Below.setCell (hsp.g.trans (hb.mono (by have := hsp.tl; omega))) (p := ⟨tq, 3, none⟩) (by show _ ≤ tq; have := hsp.tl; omega) _
end Go.Proofs.Ytkjbdemhpnhagaa.Us
