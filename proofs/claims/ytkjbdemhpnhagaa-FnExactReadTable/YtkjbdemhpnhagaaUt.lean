/- A table is taken off the wire (impl.takeTable). -/
import Derived.Test.YtkjbdemhpnhagaaUs
import Derived.Deep.RegionLaw
namespace Go.Proofs.Ytkjbdemhpnhagaa.Ur
open Go.RowKit Go.Proofs.Ytkjbdemhpnhagaa.Sl Go.Proofs.Ytkjbdemhpnhagaa.By Go.Proofs.Ytkjbdemhpnhagaa.Ap Go.Proofs.Ytkjbdemhpnhagaa.Rr Go.Proofs.Ytkjbdemhpnhagaa.Tb Go.Proofs.Ytkjbdemhpnhagaa.Tw
open Go.Proofs.Ytkjbdemhpnhagaa.Wa (OwnW OwnS clS oneS infoS)
open Go.Proofs.Ytkjbdemhpnhagaa.Lo (LkA uV clL oneL OwnL own_block kind_ne infoL)

def tb2 (xs : List Int) : List Int := tkR 3 (tkR 4 xs)
def tbA (xs : List Int) : List Int := tkR 1 (tb2 xs)
def tbB (xs : List Int) : List Int := itR lkR (cnt (tb2 xs)) (tbA xs)
def tbC (xs : List Int) : List Int := tkR 1 (tbB xs)
def tbR (xs : List Int) : List Int := itR snR (cnt (tbB xs)) (tbC xs)
def tbO (xs : List Int) : Tab := ⟨nv 4 xs, nv 3 (tkR 4 xs), itL lkR lkO (cnt (tb2 xs)) (tbA xs), itL snR snO (cnt (tbB xs)) (tbC xs)⟩
def tbS1 (xs : List Int) (sh : Bool) : Bool := tkS 1 (tb2 xs) (tkS 3 (tkR 4 xs) (tkS 4 xs sh))
def tbS2 (xs : List Int) (sh : Bool) : Bool := tkS 1 (tbB xs) (itS lkR lkS (cnt (tb2 xs)) (tbA xs) (tbS1 xs sh))
def tbS (xs : List Int) (sh : Bool) : Bool := itS snR snS (cnt (tbB xs)) (tbC xs) (tbS2 xs sh)
/-- A table's rows in memory of one's own. -/
def Apart (x y : LkA) : Prop := ∀ g, (uV x).ownBlock = some g → (uV y).ownBlock ≠ some g
structure Mem (W : World) (B : Nat) (v2 v3 : Value) (ms : List LkA) (ss : List Sn) : Prop where
  ol : OwnL W B v2 ms
  ow : ∀ m ∈ ms, OwnW W B (uV m) m.1.ws
  di : ms.Pairwise Apart
  os : OwnS W B v3 ss
theorem Mem.kept {W W' : World} {B : Nat} {v2 v3 : Value} {ms : List LkA} {ss : List Sn} (h : Mem W B v2 v3 ms ss) (hk : ∀ g, B ≤ g → g < W.heap.size → W'.heap[g]? = W.heap[g]?) : Mem W' B v2 v3 ms ss :=
  ⟨h.ol.kept fun g hg => hk g (h.ol.lt g hg).1 (h.ol.lt g hg).2, fun m hm => (h.ow m hm).kept fun g hg => hk g ((h.ow m hm).lt g hg).1 ((h.ow m hm).lt g hg).2, h.di, h.os.kept fun g hg => hk g (h.os.lt g hg).1 (h.os.lt g hg).2⟩
structure Tt (w W : World) (p B : Nat) (tm nx : Int) (v2 v3 : Value) (ms : List LkA) (ss : List Sn) (xs : List Int) (sh : Bool) : Prop where
  lc : Lc w W p B 31 #[.int .i64 0, .int .i64 0, .slice none 0 0, .slice none 0 0] #[.int .i64 tm, .int .i64 nx, v2, v3] xs sh
  me : Mem W (w.heap.size + 2) v2 v3 ms ss
section
variable {w W W' : World} {p B : Nat} {tm nx : Int} {v2 v3 : Value} {ms : List LkA} {ss : List Sn} {xs ys : List Int} {sh sb : Bool}
theorem Lc.drew {t : TypeId} {z cs : Array Value} (h : Lc w W p B t z cs xs sh) : Lc w W.drew p B t z cs xs sh := ⟨h.a, h.b, h.rd, ⟨h.gr.os, h.gr.tape, h.gr.output, h.gr.size, h.gr.block⟩, h.pl⟩
theorem Tt.drew (h : Tt w W p B tm nx v2 v3 ms ss xs sh) : Tt w W.drew p B tm nx v2 v3 ms ss xs sh := ⟨h.lc.drew, h.me.kept fun _ _ _ => rfl⟩
theorem Tt.num (h : Tt w W p B tm nx v2 v3 ms ss xs sh) (r : Rdr B W' p ys sb) (g : W.grownBy W' (some p)) : Tt w W' p B tm nx v2 v3 ms ss ys sb :=
  ⟨h.lc.num r g, h.me.kept fun k hk hl => g.block k hl (by have := h.lc.pl; simp; omega)⟩
theorem Tt.alloc (h : Tt w W p B tm nx v2 v3 ms ss xs sh) (o : Obj) : Tt w (W.alloc o) p B tm nx v2 v3 ms ss xs sh := ⟨h.lc.alloc o, h.me.kept fun _ _ hl => Below.heap_alloc _ _ _ hl⟩
theorem Tt.c2 (h : Tt w W p B tm nx v2 v3 ms ss xs sh) : W.cell? ⟨w.heap.size + 1, 2, none⟩ = some v2 := (blk_cell h.lc.b 2 (x := v2) rfl).1
theorem Tt.c3 (h : Tt w W p B tm nx v2 v3 ms ss xs sh) : W.cell? ⟨w.heap.size + 1, 3, none⟩ = some v3 := (blk_cell h.lc.b 3 (x := v3) rfl).1
end
/-- A lock was read, and has not joined yet. -/
structure Tn (w W : World) (p B : Nat) (tm nx : Int) (v2 v3 : Value) (ms : List LkA) (m : LkA) (ss : List Sn) (xs : List Int) (sh : Bool) : Prop where
  tt : Tt w W p B tm nx v2 v3 ms ss xs sh
  nw : OwnW W (w.heap.size + 2) (uV m) m.1.ws
  ap : ∀ x ∈ ms, Apart x m
section
variable {w W W' : World} {p B : Nat} {tm nx : Int} {v2 v3 : Value} {ms : List LkA} {m : LkA} {ss : List Sn} {xs ys : List Int} {sh sb : Bool}
theorem Tn.drew (h : Tn w W p B tm nx v2 v3 ms m ss xs sh) : Tn w W.drew p B tm nx v2 v3 ms m ss xs sh := ⟨h.tt.drew, h.nw.kept fun _ _ => rfl, h.ap⟩
theorem Tn.alloc (h : Tn w W p B tm nx v2 v3 ms m ss xs sh) (o : Obj) : Tn w (W.alloc o) p B tm nx v2 v3 ms m ss xs sh := ⟨h.tt.alloc o, h.nw.alloc o, h.ap⟩
theorem Tn.c2 (h : Tn w W p B tm nx v2 v3 ms m ss xs sh) : W.cell? ⟨w.heap.size + 1, 2, none⟩ = some v2 := h.tt.c2
end
/-- It joined, and is not stored yet. -/
structure Td (w W : World) (p B : Nat) (tm nx : Int) (v2 v3 u2 u3 : Value) (ms : List LkA) (ss : List Sn) (xs : List Int) (sh : Bool) : Prop where
  lc : Lc w W p B 31 #[.int .i64 0, .int .i64 0, .slice none 0 0, .slice none 0 0] #[.int .i64 tm, .int .i64 nx, v2, v3] xs sh
  me : Mem W (w.heap.size + 2) u2 u3 ms ss
section
variable {w W W' : World} {p B : Nat} {tm nx : Int} {v2 v3 u2 u3 : Value} {ms : List LkA} {ss : List Sn} {xs : List Int} {sh : Bool}
theorem Td.c2 (h : Td w W p B tm nx v2 v3 u2 u3 ms ss xs sh) : W.cell? ⟨w.heap.size + 1, 2, none⟩ = some v2 ∧ W.frozen? ⟨w.heap.size + 1, 2, none⟩ = false := blk_cell h.lc.b 2 (x := v2) rfl
theorem Td.c3 (h : Td w W p B tm nx v2 v3 u2 u3 ms ss xs sh) : W.cell? ⟨w.heap.size + 1, 3, none⟩ = some v3 ∧ W.frozen? ⟨w.heap.size + 1, 3, none⟩ = false := blk_cell h.lc.b 3 (x := v3) rfl
theorem Td.set2 (h : Td w W p B tm nx v2 v3 u2 v3 ms ss xs sh) : Tt w (W.setCell ⟨w.heap.size + 1, 2, none⟩ u2) p B tm nx u2 v3 ms ss xs sh := ⟨h.lc.set 2 u2, h.me.kept fun g hg _ => blk_far (by omega) 2 u2⟩
theorem Td.set3 (h : Td w W p B tm nx v2 v3 v2 u3 ms ss xs sh) : Tt w (W.setCell ⟨w.heap.size + 1, 3, none⟩ u3) p B tm nx v2 u3 ms ss xs sh := ⟨h.lc.set 3 u3, h.me.kept fun g hg _ => blk_far (by omega) 3 u3⟩
end
theorem pair_snoc {ms : List LkA} {m : LkA} (h : ms.Pairwise Apart) (hm : ∀ x ∈ ms, Apart x m) : (ms ++ [m]).Pairwise Apart := by
  rw [List.pairwise_append]
  exact ⟨h, List.pairwise_singleton _ _, fun x hx y hy => by rw [List.mem_singleton.1 hy]; exact hm x hx⟩
theorem step_lk {P : Program} {ops : Array Oper} {o : Oper} {a : Act} {K : Act → World → Prop} {Q : Exit → Act → World → Prop} {E : Prop} {i : TypeInfo} (hgd : o.guard = none) (s z : Operand) (t : TypeId) (ho : o.op = .call { callee := .builtin .append, args := #[s, z], argTypes := #[t, t] }) (ht : P.underlying t = some (.slice 37)) (hi : P.info? 37 = some i) (hz : i.zero = some (.agg #[.string ⟨#[]⟩, .int .i64 0, .int .i64 0, .int .i64 0, .slice none 0 0]))
    (hsize : i.size = 5) (hby : i.bytes = 64) (W w : World) (p B : Nat) (tm nx : Int) (v2 v3 : Value) (ms : List LkA) (m : LkA) (ss : List Sn) (xs : List Int) (sh : Bool) (hs : a.eval s = v2) (gx : Nat) (hx : a.eval z = .slice (some ⟨gx, 0, none⟩) 1 1) (hbx : W.heap[gx]? = some (.cells #[.string m.1.n, .int .i64 m.1.t, .int .i64 m.1.h, .int .i64 m.1.e, .slice m.2.1 m.1.ws.length m.2.2] 37 (0, 0)))
    (htb : Tn w W p B tm nx v2 v3 ms m ss xs sh) (hlen : ms.length ≤ 1000000)
    (h : ∀ v' w', Td w w' p B tm nx v2 v3 v' v3 (ms ++ [m]) ss xs sh → K (a.put o.dst v') w') : if Region.wanted o (yielded ops a.tmps) = true then Oper.wp P o a W K Q else E := by
  have hw : Region.wanted o (yielded ops a.tmps) = true := by simp [Region.wanted, hgd]
  rw [if_pos hw]
  have hol := htb.tt.me.ol
  have hsz := htb.tt.lc.size
  obtain ⟨v', w', hr, h2, h3, _, h5⟩ := run_append_own_at (P := P) W (w.heap.size + 2) t o.type 37 i _ 5 64 ht hi hz hsize hby rfl (by decide) v2 ms.length _ hol ⟨gx, 0, none⟩ 1 1 (clL m) rfl (by
    intro j u hj
    have e2 : (⟨gx, 0, none⟩ : Addr).add j = ⟨gx, j, none⟩ := by unfold Addr.add; split <;> simp_all
    rw [e2, Joins.cell_of_block hbx, ← hj]
    simp [clL, uV]) (oneL m) (by unfold maxLen; omega) (by omega) hsz
  have kp : ∀ k, k < W.heap.size → some k ≠ v2.ownBlock → w'.heap[k]? = W.heap[k]? := fun k hk hn => h3.block k hk hn
  have hbel : Below (w.heap.size + 2) W w' := ⟨h3.os, h3.tape, h3.output, h3.size, fun k hk => kp k (by omega) (fun e => by have := (hol.lt k e.symm).1; omega)⟩
  have fw : ∀ (u : Value) (ws : List Wt), OwnW W (w.heap.size + 2) u ws → OwnW w' (w.heap.size + 2) u ws := fun u ws hu => hu.kept fun g hg => kp g (hu.lt g hg).2 fun e => by
    obtain ⟨c1, e1⟩ := own_block hu hg
    obtain ⟨c2, e2⟩ := own_block hol e.symm
    exact kind_ne e1 e2 (by decide) rfl
  refine wp_app ho hs hx hr (h v' w' ⟨htb.tt.lc.kept h3.size (fun g hg => (hol.lt g hg).1) hbel kp, ⟨by unfold OwnL; rw [List.flatMap_append, List.length_append]; simpa using h2, ?_, pair_snoc htb.tt.me.di htb.ap, ?_⟩⟩)
  · intro x hx
    rcases List.mem_append.1 hx with hx | hx
    · exact fw _ _ (htb.tt.me.ow x hx)
    · rw [List.mem_singleton.1 hx]; exact fw _ _ htb.nw
  · exact htb.tt.me.os.kept fun g hg => kp g (htb.tt.me.os.lt g hg).2 fun e => by
      obtain ⟨c1, e1⟩ := own_block htb.tt.me.os hg
      obtain ⟨c2, e2⟩ := own_block hol e.symm
      exact kind_ne e1 e2 (by decide) rfl
theorem step_sn {P : Program} {ops : Array Oper} {o : Oper} {a : Act} {K : Act → World → Prop} {Q : Exit → Act → World → Prop} {E : Prop} {i : TypeInfo} (hgd : o.guard = none) (s z : Operand) (t : TypeId) (ho : o.op = .call { callee := .builtin .append, args := #[s, z], argTypes := #[t, t] }) (ht : P.underlying t = some (.slice 65)) (hi : P.info? 65 = some i) (hz : i.zero = some (.agg #[.int .i64 0, .int .i64 0, .int .i64 0, .int .i64 0, .int .i64 0, .int .i64 0]))
    (hsize : i.size = 6) (hby : i.bytes = 48) (W w : World) (p B : Nat) (tm nx : Int) (v2 v3 : Value) (ms : List LkA) (ss : List Sn) (m : Sn) (xs : List Int) (sh : Bool) (hs : a.eval s = v3) (gx : Nat) (hx : a.eval z = .slice (some ⟨gx, 0, none⟩) 1 1) (hbx : W.heap[gx]? = some (.cells #[.int .i64 m.c, .int .i64 m.s, .int .i64 m.k, .int .i64 m.t, .int .i64 m.h, .int .i64 m.e] 65 (0, 0)))
    (htb : Tt w W p B tm nx v2 v3 ms ss xs sh) (hlen : ss.length ≤ 1000000)
    (h : ∀ v' w', Td w w' p B tm nx v2 v3 v2 v' ms (ss ++ [m]) xs sh → K (a.put o.dst v') w') : if Region.wanted o (yielded ops a.tmps) = true then Oper.wp P o a W K Q else E := by
  have hw : Region.wanted o (yielded ops a.tmps) = true := by simp [Region.wanted, hgd]
  rw [if_pos hw]
  have hol := htb.me.os
  have hsz := htb.lc.size
  obtain ⟨v', w', hr, h2, h3, _, h5⟩ := run_append_own_at (P := P) W (w.heap.size + 2) t o.type 65 i _ 6 48 ht hi hz hsize hby rfl (by decide) v3 ss.length _ hol ⟨gx, 0, none⟩ 1 1 (clS m) rfl (by
    intro j u hj
    have e2 : (⟨gx, 0, none⟩ : Addr).add j = ⟨gx, j, none⟩ := by unfold Addr.add; split <;> simp_all
    rw [e2, Joins.cell_of_block hbx, ← hj]
    simp [clS]) (oneS m) (by unfold maxLen; omega) (by omega) hsz
  have kp : ∀ k, k < W.heap.size → some k ≠ v3.ownBlock → w'.heap[k]? = W.heap[k]? := fun k hk hn => h3.block k hk hn
  have hbel : Below (w.heap.size + 2) W w' := ⟨h3.os, h3.tape, h3.output, h3.size, fun k hk => kp k (by omega) (fun e => by have := (hol.lt k e.symm).1; omega)⟩
  refine wp_app ho hs hx hr (h v' w' ⟨htb.lc.kept h3.size (fun g hg => (hol.lt g hg).1) hbel kp, ⟨?_, ?_, htb.me.di, by unfold OwnS; rw [List.flatMap_append, List.length_append]; simpa using h2⟩⟩)
  · exact htb.me.ol.kept fun g hg => kp g (htb.me.ol.lt g hg).2 fun e => by
      obtain ⟨c1, e1⟩ := own_block htb.me.ol hg
      obtain ⟨c2, e2⟩ := own_block hol e.symm
      exact kind_ne e1 e2 (by decide) rfl
  · intro x hx
    exact (htb.me.ow x hx).kept fun g hg => kp g ((htb.me.ow x hx).lt g hg).2 fun e => by
      obtain ⟨c1, e1⟩ := own_block (htb.me.ow x hx) hg
      obtain ⟨c2, e2⟩ := own_block hol e.symm
      exact kind_ne e1 e2 (by decide) rfl
end Go.Proofs.Ytkjbdemhpnhagaa.Ur
