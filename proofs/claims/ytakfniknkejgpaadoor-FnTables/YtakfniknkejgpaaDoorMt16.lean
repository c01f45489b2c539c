/- Texts put together: Uw, Ux, Uy. -/
import Derived.Test.YtakfniknkejgpaaDoorMt10
import Derived.Test.YtakfniknkejgpaaDoorMt15
import Derived.Test.YtakfniknkejgpaaDoorMt12
import Derived.Deep.RegionHeld3
/- The specification's reader of tables: its numbers and texts. -/
namespace Go.Proofs.YtakfniknkejgpaaDoor.Us
open Go.RowKit Go.Proofs.YtakfniknkejgpaaDoor.Sl Go.Proofs.YtakfniknkejgpaaDoor.By Go.Proofs.YtakfniknkejgpaaDoor.Ap Go.Proofs.YtakfniknkejgpaaDoor.Rr Go.Proofs.YtakfniknkejgpaaDoor.Tb Go.Proofs.YtakfniknkejgpaaDoor.Tw Go.Proofs.YtakfniknkejgpaaDoor.Ur

theorem str_bys (s : ByteArray) : strOfNums (bys s) = s := by
 apply ByteArray.ext
 apply Array.ext'
 rw [strOfNums_data]
 unfold bys
 rw [List.map_map]
 conv => rhs; rw [← List.map_id s.data.toList]
 apply List.map_congr_left
 intro b _
 simp
theorem bys_ext (s : ByteArray) (a b : Nat) : bys (s.extract a b) = ((bys s).take b).drop a := by
 unfold bys
 rw [ByteArray.data_extract, Array.toList_extract, List.extract_eq_take_drop, ← List.drop_take, List.map_drop, List.map_take]
def Rdp (W : World) (p : Nat) (xs : List Int) (sh : Bool) : Prop := ∃ s, W.heap[p]? = some (.cells #[.string s, .bool sh] 110 (0, 0)) ∧ (sh = false → bys s = xs) ∧ (sh = true → xs = []) ∧ s.size ≤ 65536
theorem Rdp.kept {W W' : World} {p : Nat} {xs : List Int} {sh : Bool} (h : Rdp W p xs sh) (hp : W'.heap[p]? = W.heap[p]?) : Rdp W' p xs sh := by
 obtain ⟨s, h1, h2⟩ := h
 exact ⟨s, hp.trans h1, h2⟩
theorem Rdp.lt {W : World} {p : Nat} {xs : List Int} {sh : Bool} (h : Rdp W p xs sh) : p < W.heap.size := by
 obtain ⟨s, h1, _⟩ := h
 exact (Array.getElem?_eq_some_iff.1 h1).1
theorem tk_nil (n : Nat) : tkB n [] = [] ∧ tkR n [] = [] := by
 unfold tkB tkR
 constructor
 ·split
  ·rfl
  ·simp
 ·split
  ·rfl
  ·simp
set_option maxRecDepth 100000 in
set_option maxHeartbeats 800000 in
theorem text_any (n p : Nat) (xs : List Int) (sh : Bool) (w : World) (h : Rdp w p xs sh) (hn : n ≤ 65535) :
 Calls Tryd.prog 67 #[.pointer (some ⟨p, 0, none⟩), .int .i64 n] w fun e w' => e = .returned (.string (strOfNums (tkB n xs))) ∧ Rdp w' p (tkR n xs) (tkS n xs sh) ∧ w.grownBy w' (some p) := by
 obtain ⟨s, hb, h1, h2, hs⟩ := h
 have HB : Hid (w.heap[p]? = some (.cells #[.string s, .bool sh] 110 (0, 0))) := hb
 obtain ⟨c0, f0⟩ := blk_cell hb 0 (x := .string s) rfl
 obtain ⟨c1, f1⟩ := blk_cell hb 1 (x := .bool sh) rfl
 clear hb
 rcases Bool.eq_false_or_eq_true sh with hsh | hsh
 ·subst hsh
  have HE : Hid (strOfNums (tkB n xs) = ⟨#[]⟩ ∧ tkR n xs = [] ∧ tkS n xs true = true) := by
   rw [h2 rfl, (tk_nil n).1, (tk_nil n).2]
   exact ⟨rfl, rfl, by unfold tkS; rfl⟩
  clear h1 h2
  go_enter Tryd.func67, Tryd.ntmps67
  go_wp2_with fail
  go_ret
  rw [HE.out.1, HE.out.2.1, HE.out.2.2]
  exact ⟨rfl, ⟨s, set1 HB.out, (fun h => by cases h), (fun _ => rfl), hs⟩, grown_set _ _⟩
 ·subst hsh
  have hx := h1 rfl
  have hsz : xs.length = s.size := by rw [← hx, bys_length]
  by_cases hlt : s.size < n
  ·have HE : Hid (strOfNums (tkB n xs) = ⟨#[]⟩ ∧ tkR n xs = [] ∧ tkS n xs false = true) := by
    have hl : xs.length < n := by omega
    refine ⟨?_, if_pos hl, ?_⟩
    ·have e : tkB n xs = [] := if_pos hl
     rw [e]; rfl
    ·unfold tkS; rw [decide_eq_true hl]; rfl
   have hlt' : (s.size : Int) < (n : Int) := by omega
   clear h1 h2 hx hsz hlt
   go_enter Tryd.func67, Tryd.ntmps67
   go_wp2_with fail
   go_ret
   rw [HE.out.1, HE.out.2.1, HE.out.2.2]
   exact ⟨rfl, ⟨s, set1 HB.out, (fun h => by cases h), (fun _ => rfl), hs⟩, grown_set _ _⟩
  ·have HE : Hid (strOfNums (tkB n xs) = s.extract 0 n ∧ bys (s.extract n s.size) = tkR n xs ∧ tkS n xs false = false ∧ (s.extract n s.size).size ≤ 65536) := by
    have hl : ¬ xs.length < n := by omega
    have e1 : tkB n xs = xs.take n := if_neg hl
    have e2 : tkR n xs = xs.drop n := if_neg hl
    have e3 : xs.take n = bys (s.extract 0 n) := by rw [bys_ext, List.drop_zero, hx]
    have e4 : xs.drop n = bys (s.extract n s.size) := by rw [bys_ext, hx, List.take_of_length_le (by omega)]
    refine ⟨by rw [e1, e3, str_bys], by rw [e2, e4], by unfold tkS; rw [decide_eq_false hl]; rfl, ?_⟩
    rw [ByteArray.size_extract]; omega
   have hlt' : (n : Int) ≤ (s.size : Int) := by omega
   have hn0 : (0 : Int) ≤ (n : Int) := by omega
   clear h1 h2 hx hsz hlt
   go_enter Tryd.func67, Tryd.ntmps67
   go_wp2_with fail
   go_ret
   rw [HE.out.1, HE.out.2.2.1]
   exact ⟨rfl, ⟨_, set0 HB.out, (fun _ => HE.out.2.1), (fun h => by cases h), HE.out.2.2.2⟩, grown_set _ _⟩
set_option maxRecDepth 100000 in
set_option maxHeartbeats 800000 in
theorem number_any (n p : Nat) (xs : List Int) (sh : Bool) (w : World) (h : Rdp w p xs sh) (hn : n ≤ 4) (hr : ∀ x ∈ xs, 0 ≤ x ∧ x ≤ 255) :
 Calls Tryd.prog 66 #[.pointer (some ⟨p, 0, none⟩), .int .i64 n] w fun e w' => e = .returned (.int .i64 (nv n xs)) ∧ Rdp w' p (tkR n xs) (tkS n xs sh) ∧ w.grownBy w' (some p) := by
 have HT : Hid (Calls Tryd.prog 67 #[.pointer (some ⟨p, 0, none⟩), .int .i64 n] w fun e w' => e = .returned (.string (strOfNums (tkB n xs))) ∧ Rdp w' p (tkR n xs) (tkS n xs sh) ∧ w.grownBy w' (some p)) := text_any n p xs sh w h (by omega)
 have HB : Hid (∀ W, Calls Tryd.prog 94 #[.string (strOfNums (tkB n xs))] W fun e w' => e = .returned (.int .i64 (nv n xs)) ∧ w' = W) := fun W => by
  have h1 := Of.l02Of_any (strOfNums (tkB n xs)) W (by rw [strOfNums_size]; have := tkB_len n xs; omega)
  have e : bys (strOfNums (tkB n xs)) = tkB n xs := by
   unfold bys
   rw [strOfNums_data, List.map_map]
   conv => rhs; rw [← List.map_id (tkB n xs)]
   apply List.map_congr_left
   intro x hx
   have := tkB_range hr x hx
   simp only [Function.comp_apply, id]
   rw [UInt8.toNat_ofNat_of_lt' (by unfold UInt8.size; omega)]
   omega
  rw [e] at h1
  exact h1
 generalize strOfNums (tkB n xs) = t at HT HB
 generalize nv n xs = z at HB
 clear h hr
 go_enter Tryd.func66, Tryd.ntmps66
 go_wp2_with fail
 refine HT.out.mono ?_
 rintro e w1 ⟨rfl, r1, g1⟩
 go_wp2_with fail
 refine (HB.out w1).mono ?_
 rintro e w2 ⟨rfl, e2⟩
 rw [e2]
 go_wp2_with fail
 go_ret
 exact ⟨rfl, r1, g1⟩
end Go.Proofs.YtakfniknkejgpaaDoor.Us

/- While the specification reads a table: what is known of memory. -/
namespace Go.Proofs.YtakfniknkejgpaaDoor.Us
open Go.RowKit Go.Proofs.YtakfniknkejgpaaDoor.Sl Go.Proofs.YtakfniknkejgpaaDoor.By Go.Proofs.YtakfniknkejgpaaDoor.Ap Go.Proofs.YtakfniknkejgpaaDoor.Rr Go.Proofs.YtakfniknkejgpaaDoor.Tb Go.Proofs.YtakfniknkejgpaaDoor.Tw
open Go.Proofs.YtakfniknkejgpaaDoor.Ur (nv itR itS itL itL_len itR_succ itS_succ itL_succ Less wtO wtR wtS lkO lkR lkS lkS3 lk3 snO snR snS sn5 cnt tbO tbR tbS tbA tbB tbC tb2 tbS1 tbS2 Mem Apart pair_snoc)
open Go.Proofs.YtakfniknkejgpaaDoor.Wa (OwnW OwnS clW oneW clS oneS infoS infoW)
open Go.Proofs.YtakfniknkejgpaaDoor.Lo (LkA uV clL oneL OwnL own_block kind_ne infoL)

theorem itS_true {f : List Int → List Int} {g : List Int → Bool → Bool} (hg : ∀ xs, g xs true = true) (xs : List Int) (sh : Bool) {k n : Nat} (hk : k ≤ n) (h : itS f g k xs sh = true) : itS f g n xs sh = true := by
 induction n with
 | zero => obtain rfl : k = 0 := by omega
           exact h
 | succ n ih =>
   by_cases e : k = n + 1
   ·rw [← e]; exact h
   ·rw [itS_succ, ih (by omega)]; exact hg _
theorem wtS_true (xs : List Int) : wtS xs true = true := rfl
theorem lkS_true (xs : List Int) : lkS xs true = true := by
 unfold lkS
 have e : tkS 1 (lk3 xs) (lkS3 xs true) = true := rfl
 rw [e]
 exact itS_true wtS_true _ true (Nat.zero_le _) rfl
theorem snS_true (xs : List Int) : snS xs true = true := rfl
theorem Mem.setq {W : World} {B : Nat} {v2 v3 : Value} {ms : List LkA} {ss : List Sn} (h : Mem W B v2 v3 ms ss) {q : Nat} {cs : Array Value} {t : TypeId} (hq : W.heap[q]? = some (.cells cs t (0, 0))) (h1 : 52 ≠ t) (h2 : 93 ≠ t) (h3 : 57 ≠ t) (i : Nat) (v : Value) : Mem (W.setCell ⟨q, i, none⟩ v) B v2 v3 ms ss :=
 ⟨h.ol.kept fun g hg => blk_far (by obtain ⟨c, e⟩ := own_block h.ol hg; exact kind_ne e hq h1) i v, fun m hm => (h.ow m hm).kept fun g hg => blk_far (by obtain ⟨c, e⟩ := own_block (h.ow m hm) hg; exact kind_ne e hq h2) i v, h.di, h.os.kept fun g hg => blk_far (by obtain ⟨c, e⟩ := own_block h.os hg; exact kind_ne e hq h3) i v⟩
structure Low (N : Nat) (v2 v3 : Value) (ms : List LkA) : Prop where
 l : ∀ g, v2.ownBlock = some g → g < N
 s : ∀ g, v3.ownBlock = some g → g < N
 w : ∀ m ∈ ms, ∀ g, (uV m).ownBlock = some g → g < N
theorem Mem.low {W : World} {B : Nat} {v2 v3 : Value} {ms : List LkA} {ss : List Sn} (h : Mem W B v2 v3 ms ss) : Low W.heap.size v2 v3 ms :=
 ⟨fun g hg => (h.ol.lt g hg).2, fun g hg => (h.os.lt g hg).2, fun m hm g hg => ((h.ow m hm).lt g hg).2⟩
theorem Mem.setn {W : World} {B N : Nat} {v2 v3 : Value} {ms : List LkA} {ss : List Sn} (h : Mem W B v2 v3 ms ss) (hl : Low N v2 v3 ms) {q : Nat} (hq : N ≤ q) (i : Nat) (v : Value) : Mem (W.setCell ⟨q, i, none⟩ v) B v2 v3 ms ss :=
 ⟨h.ol.kept fun g hg => blk_far (by have := hl.l g hg; omega) i v, fun m hm => (h.ow m hm).kept fun g hg => blk_far (by have := hl.w m hm g hg; omega) i v, h.di, h.os.kept fun g hg => blk_far (by have := hl.s g hg; omega) i v⟩
structure Sp (w : World) (tq : Nat) (W : World) (tm nx : Int) (v2 v3 : Value) (ms : List LkA) (ss : List Sn) (xs : List Int) (sh : Bool) : Prop where
 a : W.heap[w.heap.size]? = some (.cells #[.int .i64 0, .int .i64 0, .slice none 0 0, .slice none 0 0] 26 (0, 0))
 rd : Rdp W (w.heap.size + 1) xs sh
 t : W.heap[tq]? = some (.cells #[.int .i64 tm, .int .i64 nx, v2, v3] 26 (0, 0))
 g : Below w.heap.size w W
 me : Mem W (w.heap.size + 2) v2 v3 ms ss
 tl : w.heap.size + 2 ≤ tq
section
variable {w wr W W' : World} {tq : Nat} {tm nx : Int} {v2 v3 : Value} {ms : List LkA} {ss : List Sn} {xs ys : List Int} {sh sb : Bool}
theorem Sp.size (h : Sp w tq W tm nx v2 v3 ms ss xs sh) : tq < W.heap.size := (Array.getElem?_eq_some_iff.1 h.t).1
theorem gb {p B : Nat} (hg : W.grownBy W' (some p)) (hp : p < W.heap.size) (hB : B ≤ p) : Below B W W' := ⟨hg.os, hg.tape, hg.output, hg.size, fun k hk => hg.block k (by omega) (by simp; omega)⟩
theorem Sp.num (h : Sp w tq W tm nx v2 v3 ms ss xs sh) (r : Rdp W' (w.heap.size + 1) ys sb) (g : W.grownBy W' (some (w.heap.size + 1))) : Sp w tq W' tm nx v2 v3 ms ss ys sb :=
 ⟨blk_kept h.a g (by have := h.tl; omega), r, blk_kept h.t g (by have := h.tl; omega), h.g.trans (gb g h.rd.lt (by have := h.tl; omega)), h.me.kept fun k hk hl => g.block k hl (by simp; omega), h.tl⟩
theorem Sp.up (h : Sp w tq W tm nx v2 v3 ms ss xs sh) (hb : Below W.heap.size W W') : Sp w tq W' tm nx v2 v3 ms ss xs sh :=
 ⟨(hb.block _ (Array.getElem?_eq_some_iff.1 h.a).1).trans h.a, h.rd.kept (hb.block _ h.rd.lt), (hb.block _ (Array.getElem?_eq_some_iff.1 h.t).1).trans h.t, h.g.trans (hb.mono h.g.size), h.me.kept fun k _ hl => hb.block k hl, h.tl⟩
theorem Sp.setn {N : Nat} (h : Sp w tq W tm nx v2 v3 ms ss xs sh) (hl : Low N v2 v3 ms) (hN : tq < N) {q : Nat} (hq : N ≤ q) (i : Nat) (v : Value) : Sp w tq (W.setCell ⟨q, i, none⟩ v) tm nx v2 v3 ms ss xs sh :=
 ⟨(blk_far (by have := h.tl; omega) i v).trans h.a, h.rd.kept (blk_far (by have := h.tl; omega) i v), (blk_far (by have := h.tl; omega) i v).trans h.t, Below.setCell h.g (p := ⟨q, i, none⟩) (by show _ ≤ q; have := h.tl; omega) v, Mem.setn h.me hl hq i v, h.tl⟩
theorem Sp.set1 (h : Sp w tq W tm nx v2 v3 ms ss xs sh) (z : Int) : Sp w tq (W.setCell ⟨tq, 1, none⟩ (.int .i64 z)) tm z v2 v3 ms ss xs sh :=
 ⟨(blk_far (by have := h.tl; omega) 1 _).trans h.a, h.rd.kept (blk_far (by have := h.tl; omega) 1 _), blk_set h.t 1 _, Below.setCell h.g (p := ⟨tq, 1, none⟩) (by show _ ≤ tq; have := h.tl; omega) _, Mem.setq h.me h.t (by decide) (by decide) (by decide) 1 _, h.tl⟩
theorem Sp.bad (h : Sp w tq W tm nx v2 v3 ms ss xs sh) : W.cell? ⟨w.heap.size + 1, 1, none⟩ = some (.bool sh) := by
 obtain ⟨s, h1, _⟩ := h.rd
 exact (blk_cell h1 1 (x := .bool sh) rfl).1
theorem Sp.drew (h : Sp w tq W tm nx v2 v3 ms ss xs sh) : Sp w tq W.drew tm nx v2 v3 ms ss xs sh := ⟨h.a, h.rd.kept rfl, h.t, h.g.drew, h.me.kept fun _ _ _ => rfl, h.tl⟩
end
structure Sk (w : World) (tq : Nat) (wr W : World) (q : Nat) (tm nx : Int) (v2 v3 : Value) (ms : List LkA) (ss : List Sn) (kc : Array Value) (u : Value) (ws : List Wt) (xs : List Int) (sh : Bool) : Prop where
 sp : Sp w tq W tm nx v2 v3 ms ss xs sh
 k : W.heap[q]? = some (.cells kc 52 (0, 0))
 ow : OwnW W wr.heap.size u ws
 lo : Low wr.heap.size v2 v3 ms
 qn : tq < wr.heap.size ∧ wr.heap.size ≤ q
section
variable {w wr W W' : World} {tq q : Nat} {tm nx : Int} {v2 v3 : Value} {ms : List LkA} {ss : List Sn} {kc : Array Value} {u : Value} {ws : List Wt} {xs ys : List Int} {sh sb : Bool}
theorem Sk.num (h : Sk w tq wr W q tm nx v2 v3 ms ss kc u ws xs sh) (r : Rdp W' (w.heap.size + 1) ys sb) (g : W.grownBy W' (some (w.heap.size + 1))) : Sk w tq wr W' q tm nx v2 v3 ms ss kc u ws ys sb :=
 ⟨h.sp.num r g, blk_kept h.k g (by have := h.qn; have := h.sp.tl; omega), h.ow.kept fun x hx => g.block x (h.ow.lt x hx).2 (by have := (h.ow.lt x hx).1; have := h.qn; have := h.sp.tl; simp; omega), h.lo, h.qn⟩
theorem Sk.set (h : Sk w tq wr W q tm nx v2 v3 ms ss kc u ws xs sh) (i : Nat) (v : Value) : Sk w tq wr (W.setCell ⟨q, i, none⟩ v) q tm nx v2 v3 ms ss (kc.setIfInBounds i v) u ws xs sh :=
 ⟨h.sp.setn h.lo h.qn.1 h.qn.2 i v, blk_set h.k i v, h.ow.kept fun g hg => blk_far (by obtain ⟨c, e⟩ := own_block h.ow hg; exact kind_ne e h.k (by decide)) i v, h.lo, h.qn⟩
theorem Sk.up (h : Sk w tq wr W q tm nx v2 v3 ms ss kc u ws xs sh) (hb : Below W.heap.size W W') : Sk w tq wr W' q tm nx v2 v3 ms ss kc u ws xs sh :=
 ⟨h.sp.up hb, (hb.block _ (Array.getElem?_eq_some_iff.1 h.k).1).trans h.k, h.ow.below hb, h.lo, h.qn⟩
theorem Sk.drew (h : Sk w tq wr W q tm nx v2 v3 ms ss kc u ws xs sh) : Sk w tq wr W.drew q tm nx v2 v3 ms ss kc u ws xs sh := ⟨h.sp.drew, h.k, h.ow.kept fun _ _ => rfl, h.lo, h.qn⟩
theorem Sk.alloc (h : Sk w tq wr W q tm nx v2 v3 ms ss kc u ws xs sh) (o : Obj) : Sk w tq wr (W.alloc o) q tm nx v2 v3 ms ss kc u ws xs sh := h.up ((Below.refl _ _).alloc (Nat.le_refl _) _)
end
structure Sj (w : World) (tq : Nat) (wr W : World) (q : Nat) (tm nx : Int) (v2 v3 : Value) (ms : List LkA) (ss : List Sn) (kc : Array Value) (u : Value) (ws : List Wt) (xs : List Int) (sh : Bool) : Prop where
 sk : Sk w tq wr W q tm nx v2 v3 ms ss kc u ws xs sh
theorem step_wt {P : Program} {ops : Array Oper} {o : Oper} {a : Act} {K : Act → World → Prop} {Q : Exit → Act → World → Prop} {E : Prop} {i : TypeInfo} (hgd : o.guard = none) (s z : Operand) (t : TypeId) (ho : o.op = .call { callee := .builtin .append, args := #[s, z], argTypes := #[t, t] }) (ht : P.underlying t = some (.slice 93)) (hi : P.info? 93 = some i) (hz : i.zero = some (.agg #[.int .i64 0, .int .i64 0]))
 (hsize : i.size = 2) (hby : i.bytes = 16) (W w wr : World) (tq q : Nat) (tm nx : Int) (v2 v3 : Value) (ms : List LkA) (ss : List Sn) (kc : Array Value) (u : Value) (ws : List Wt) (m : Wt) (xs : List Int) (sh : Bool) (hs : a.eval s = u) (gx : Nat) (hx : a.eval z = .slice (some ⟨gx, 0, none⟩) 1 1) (hbx : W.heap[gx]? = some (.cells #[.int .i64 m.c, .int .i64 m.l] 93 (0, 0)))
 (htb : Sk w tq wr W q tm nx v2 v3 ms ss kc u ws xs sh) (hlen : ws.length ≤ 1000000)
 (h : ∀ v' w', Sj w tq wr w' q tm nx v2 v3 ms ss kc v' (ws ++ [m]) xs sh → K (a.put o.dst v') w') : if Region.wanted o (yielded ops a.tmps) = true then Oper.wp P o a W K Q else E := by
 have hw : Region.wanted o (yielded ops a.tmps) = true := by simp [Region.wanted, hgd]
 rw [if_pos hw]
 have hol := htb.ow
 have hsz : wr.heap.size ≤ W.heap.size := by have := (Array.getElem?_eq_some_iff.1 htb.k).1; have := htb.qn; omega
 obtain ⟨v', w', hr, h2, h3, _, h5⟩ := run_append_own_at (P := P) W wr.heap.size t o.type 93 i _ 2 16 ht hi hz hsize hby rfl (by decide) u ws.length _ hol ⟨gx, 0, none⟩ 1 1 (clW m) rfl (by
  intro j u hj
  have e2 : (⟨gx, 0, none⟩ : Addr).add j = ⟨gx, j, none⟩ := by unfold Addr.add; split <;> simp_all
  rw [e2, Joins.cell_of_block hbx, ← hj]
  simp [clW]) (oneW m) (by unfold maxLen; omega) (by omega) hsz
 have kp : ∀ k, k < W.heap.size → some k ≠ u.ownBlock → w'.heap[k]? = W.heap[k]? := fun k hk hn => h3.block k hk hn
 have ne : ∀ k, k < wr.heap.size → some k ≠ u.ownBlock := fun k hk e => by have := (hol.lt k e.symm).1; omega
 have hsp := htb.sp
 have hq := htb.qn
 refine wp_app ho hs hx hr (h v' w' ⟨⟨⟨(kp _ (by have := hsp.size; have := hsp.tl; omega) (ne _ (by have := hsp.tl; omega))).trans hsp.a, hsp.rd.kept (kp _ hsp.rd.lt (ne _ (by have := hsp.tl; omega))), (kp _ (by have := hsp.size; have := hsp.tl; omega) (ne _ (by have := hsp.tl; omega))).trans hsp.t, ⟨h3.os.trans hsp.g.os, h3.tape.trans hsp.g.tape, h3.output.trans hsp.g.output, Nat.le_trans hsp.g.size h3.size, fun k hk => (kp k (by have := hsp.size; have := hsp.tl; omega) (ne k (by have := hsp.tl; omega))).trans (hsp.g.block k hk)⟩, ?_, hsp.tl⟩, ?_, by unfold OwnW; rw [List.flatMap_append, List.length_append]; simpa using h2, htb.lo, hq⟩⟩)
 ·exact ⟨hsp.me.ol.kept fun g hg => kp g (hsp.me.ol.lt g hg).2 (ne g (htb.lo.l g hg)), fun m hm => (hsp.me.ow m hm).kept fun g hg => kp g ((hsp.me.ow m hm).lt g hg).2 (ne g (htb.lo.w m hm g hg)), hsp.me.di, hsp.me.os.kept fun g hg => kp g (hsp.me.os.lt g hg).2 (ne g (htb.lo.s g hg))⟩
 ·refine (kp q (Array.getElem?_eq_some_iff.1 htb.k).1 fun e => ?_).trans htb.k
  obtain ⟨c1, e1⟩ := own_block hol e.symm
  exact kind_ne e1 htb.k (by decide) rfl
theorem Sk.join {w wr W W' : World} {tq q : Nat} {tm nx : Int} {v2 v3 v' : Value} {ms : List LkA} {ss : List Sn} {kc : Array Value} {xs : List Int} {sh : Bool} {m : LkA} (h : Sk w tq wr W q tm nx v2 v3 ms ss kc (uV m) m.1.ws xs sh) (ol : OwnL W' (w.heap.size + 2) v' (ms ++ [m])) (hb : Below (w.heap.size + 2) W W') (kp : ∀ k, k < W.heap.size → some k ≠ v2.ownBlock → W'.heap[k]? = W.heap[k]?) :
 W'.cell? ⟨tq, 2, none⟩ = some v2 ∧ W'.frozen? ⟨tq, 2, none⟩ = false ∧ Sp w tq (W'.setCell ⟨tq, 2, none⟩ v') tm nx v' v3 (ms ++ [m]) ss xs sh := by
 have hsp := h.sp
 have hz := hsp.size
 have ne4 : ∀ (g : Nat) (cs : Array Value) (t : TypeId), W.heap[g]? = some (.cells cs t (0, 0)) → t ≠ 52 → W'.heap[g]? = W.heap[g]? := fun g cs t hg ht => kp g (Array.getElem?_eq_some_iff.1 hg).1 fun e => by
  obtain ⟨c1, e1⟩ := own_block hsp.me.ol e.symm
  exact kind_ne e1 hg (Ne.symm ht) rfl
 have ht := (ne4 _ _ _ hsp.t (by decide)).trans hsp.t
 obtain ⟨c, f⟩ := blk_cell ht 2 (x := v2) rfl
 have fw : ∀ (B : Nat) (u : Value) (ws : List Wt), OwnW W B u ws → OwnW W' B u ws := fun B u ws hu => hu.kept fun g hg => by
  obtain ⟨c1, e1⟩ := own_block hu hg
  exact ne4 g _ _ e1 (by decide)
 have hm : Mem W' (w.heap.size + 2) v' v3 (ms ++ [m]) ss := by
  refine ⟨ol, fun x hx => ?_, pair_snoc hsp.me.di fun x hx g hg e => ?_, hsp.me.os.kept fun g hg => ?_⟩
  ·rcases List.mem_append.1 hx with hx | hx
   ·exact fw _ _ _ (hsp.me.ow x hx)
   ·rw [List.mem_singleton.1 hx]; exact fw _ _ _ (h.ow.mono (by have := h.qn; have := hsp.tl; omega))
  ·have h1 := h.lo.w x hx g hg
   have h2 := (h.ow.lt g e).1
   omega
  ·obtain ⟨c1, e1⟩ := own_block hsp.me.os hg
   exact ne4 g _ _ e1 (by decide)
 refine ⟨c, f, ⟨(blk_far (by have := hsp.tl; omega) 2 _).trans ((hb.block _ (by have := hsp.tl; omega)).trans hsp.a), (hsp.rd.kept (hb.block _ (by have := hsp.tl; omega))).kept (blk_far (by have := hsp.tl; omega) 2 _), blk_set ht 2 _, ?_, Mem.setq hm ht (by decide) (by decide) (by decide) 2 _, hsp.tl⟩⟩
 exact Below.setCell (hsp.g.trans (hb.mono (by have := hsp.tl; omega))) (p := ⟨tq, 2, none⟩) (by show _ ≤ tq; have := hsp.tl; omega) _
theorem Sp.joinS {w W W' : World} {tq : Nat} {tm nx : Int} {v2 v3 v' : Value} {ms : List LkA} {ss : List Sn} {xs : List Int} {sh : Bool} {m : Sn} (hsp : Sp w tq W tm nx v2 v3 ms ss xs sh) (os : OwnS W' (w.heap.size + 2) v' (ss ++ [m])) (hb : Below (w.heap.size + 2) W W') (kp : ∀ k, k < W.heap.size → some k ≠ v3.ownBlock → W'.heap[k]? = W.heap[k]?) :
 W'.cell? ⟨tq, 3, none⟩ = some v3 ∧ W'.frozen? ⟨tq, 3, none⟩ = false ∧ Sp w tq (W'.setCell ⟨tq, 3, none⟩ v') tm nx v2 v' ms (ss ++ [m]) xs sh := by
 have hz := hsp.size
 have ne4 : ∀ (g : Nat) (cs : Array Value) (t : TypeId), W.heap[g]? = some (.cells cs t (0, 0)) → t ≠ 57 → W'.heap[g]? = W.heap[g]? := fun g cs t hg ht => kp g (Array.getElem?_eq_some_iff.1 hg).1 fun e => by
  obtain ⟨c1, e1⟩ := own_block hsp.me.os e.symm
  exact kind_ne e1 hg (Ne.symm ht) rfl
 have ht := (ne4 _ _ _ hsp.t (by decide)).trans hsp.t
 obtain ⟨c, f⟩ := blk_cell ht 3 (x := v3) rfl
 have hm : Mem W' (w.heap.size + 2) v2 v' ms (ss ++ [m]) := by
  refine ⟨hsp.me.ol.kept fun g hg => ?_, fun x hx => (hsp.me.ow x hx).kept fun g hg => ?_, hsp.me.di, os⟩
  ·obtain ⟨c1, e1⟩ := own_block hsp.me.ol hg
   exact ne4 g _ _ e1 (by decide)
  ·obtain ⟨c1, e1⟩ := own_block (hsp.me.ow x hx) hg
   exact ne4 g _ _ e1 (by decide)
 refine ⟨c, f, ⟨(blk_far (by have := hsp.tl; omega) 3 _).trans ((hb.block _ (by have := hsp.tl; omega)).trans hsp.a), (hsp.rd.kept (hb.block _ (by have := hsp.tl; omega))).kept (blk_far (by have := hsp.tl; omega) 3 _), blk_set ht 3 _, ?_, Mem.setq hm ht (by decide) (by decide) (by decide) 3 _, hsp.tl⟩⟩
 exact Below.setCell (hsp.g.trans (hb.mono (by have := hsp.tl; omega))) (p := ⟨tq, 3, none⟩) (by show _ ≤ tq; have := hsp.tl; omega) _
end Go.Proofs.YtakfniknkejgpaaDoor.Us

/- What the specification's l05Read answers. -/
namespace Go.Proofs.YtakfniknkejgpaaDoor.Us
open Go.RowKit Go.Proofs.YtakfniknkejgpaaDoor.Sl Go.Proofs.YtakfniknkejgpaaDoor.By Go.Proofs.YtakfniknkejgpaaDoor.Ap Go.Proofs.YtakfniknkejgpaaDoor.Rr Go.Proofs.YtakfniknkejgpaaDoor.Tb Go.Proofs.YtakfniknkejgpaaDoor.Tw
open Go.Proofs.YtakfniknkejgpaaDoor.Ur (nv nv_range itR itS itL itL_len itR_succ itS_succ itL_succ Less less_it less_lk less_sn less_wt less_lk3 less_tk less_2 less_A less_B wtO wtR wtS lkO lkR lkS lkS3 lk3 snO snR snS sn5 cnt cnt_le tbO tbR tbS tbA tbB tbC tb2 tbS1 tbS2 Mem Apart pair_snoc rtOK tbO_small size_new)
open Go.Proofs.YtakfniknkejgpaaDoor.Wa (OwnW OwnS clW oneW clS oneS infoS infoW appS)
open Go.Proofs.YtakfniknkejgpaaDoor.Lo (LkA uV clL oneL OwnL own_block kind_ne infoL list_lk)
open Go.Proofs.YtakfniknkejgpaaDoor.Tp (bOf TOK)

theorem cnt_eq {xs : List Int} (hr : ∀ x ∈ xs, 0 ≤ x ∧ x ≤ 255) : nv 1 xs = (cnt xs : Int) := by
 have nb := nv_range (n := 1) hr
 unfold cnt; omega
structure Agk (xs : List Int) (l : Lk) (ys : List Int) (sb : Bool) : Prop where
 f : sb = false → l = lkO xs ∧ ys = lkR xs ∧ lkS xs false = false
 t : sb = true → lkS xs false = true
theorem agk {xs : List Int} {q : Nat} (hq : q ≤ cnt (lk3 xs)) (he : q = cnt (lk3 xs) ∨ itS wtR wtS q (tkR 1 (lk3 xs)) (tkS 1 (lk3 xs) (lkS3 xs false)) = true) :
 Agk xs ⟨Rr.txtB 1 xs, nv 3 (txtR 1 xs), nv 2 (tkR 3 (txtR 1 xs)) - 1, nv 4 (tkR 2 (tkR 3 (txtR 1 xs))), itL wtR wtO q (tkR 1 (lk3 xs))⟩ (itR wtR q (tkR 1 (lk3 xs))) (itS wtR wtS q (tkR 1 (lk3 xs)) (tkS 1 (lk3 xs) (lkS3 xs false))) := by
 have e : lkS xs false = itS wtR wtS (cnt (lk3 xs)) (tkR 1 (lk3 xs)) (tkS 1 (lk3 xs) (lkS3 xs false)) := by unfold lkS; rfl
 constructor
 ·intro hf
  rcases he with he | he
  ·rw [← he] at e
   refine ⟨by simp only [lkO, he], by unfold lkR; rw [he], by rw [e]; exact hf⟩
  ·rw [he] at hf; cases hf
 ·intro ht
  rw [e]
  exact itS_true wtS_true _ _ hq ht
structure Agl (n : Nat) (ys : List Int) (s0 : Bool) (k : Nat) (ls : List Lk) (xs : List Int) (sh : Bool) : Prop where
 f : sh = false → ls = itL lkR lkO k ys ∧ xs = itR lkR k ys ∧ itS lkR lkS k ys s0 = false
 t : sh = true → itS lkR lkS n ys s0 = true
theorem Agl.next {n : Nat} {ys : List Int} {s0 : Bool} {k : Nat} {ls : List Lk} {xs : List Int} (h : Agl n ys s0 k ls xs false) (hk : k < n) {l : Lk} {zs : List Int} {sb : Bool} (g : Agk xs l zs sb) : Agl n ys s0 (k + 1) (ls ++ [l]) zs sb := by
 obtain ⟨h1, h2, h3⟩ := h.f rfl
 constructor
 ·intro hf
  obtain ⟨g1, g2, g3⟩ := g.f hf
  refine ⟨by rw [itL_succ, ← h1, g1, h2], by rw [itR_succ, g2, h2], by rw [itS_succ, h3, ← h2]; exact g3⟩
 ·intro ht
  refine itS_true lkS_true ys s0 (show k + 1 ≤ n by omega) ?_
  rw [itS_succ, h3, ← h2]
  exact g.t ht
structure Ags (n : Nat) (ys : List Int) (s0 : Bool) (k : Nat) (ss : List Sn) (xs : List Int) (sh : Bool) : Prop where
 f : sh = false → ss = itL snR snO k ys ∧ xs = itR snR k ys ∧ itS snR snS k ys s0 = false
 t : sh = true → itS snR snS n ys s0 = true
theorem Ags.next {n : Nat} {ys : List Int} {s0 : Bool} {k : Nat} {ss : List Sn} {xs : List Int} (h : Ags n ys s0 k ss xs false) (hk : k < n) : Ags n ys s0 (k + 1) (ss ++ [snO xs]) (snR xs) (snS xs false) := by
 obtain ⟨h1, h2, h3⟩ := h.f rfl
 constructor
 ·intro hf
  refine ⟨by rw [itL_succ, ← h1, h2], by rw [itR_succ, h2], by rw [itS_succ, h3, ← h2]; exact hf⟩
 ·intro ht
  refine itS_true snS_true ys s0 (show k + 1 ≤ n by omega) ?_
  rw [itS_succ, h3, ← h2]
  exact ht
theorem Ags.zero (n : Nat) (ys : List Int) (s0 : Bool) : Ags n ys s0 0 [] ys s0 :=
 ⟨fun h => ⟨rfl, rfl, h⟩, fun h => itS_true snS_true ys s0 (Nat.zero_le n) h⟩
def Fl (n : Nat) (y0 : List Int) (s0 : Bool) (ls : List Lk) (ys : List Int) (sh : Bool) : Prop := (sh = false → ls = itL lkR lkO n y0 ∧ ys = itR lkR n y0 ∧ itS lkR lkS n y0 s0 = false) ∧ (sh = true → itS lkR lkS n y0 s0 = true)
theorem fin_ok {xs ys zs : List Int} {sh sb : Bool} {ls : List Lk} {ss : List Sn}
 (h1 : Fl (cnt (tb2 xs)) (tbA xs) (tbS1 xs false) ls ys sh)
 (h2 : (sb = false → ss = itL snR snO (cnt ys) (tkR 1 ys) ∧ zs = itR snR (cnt ys) (tkR 1 ys) ∧ itS snR snS (cnt ys) (tkR 1 ys) (tkS 1 ys sh) = false) ∧ (sb = true → itS snR snS (cnt ys) (tkR 1 ys) (tkS 1 ys sh) = true)) :
 (sb = false → tbS xs false = false ∧ tbR xs = zs ∧ tbO xs = ⟨nv 4 xs, nv 3 (tkR 4 xs), ls, ss⟩) ∧ (sb = true → tbS xs false = true) := by
 have eS : tbS xs false = itS snR snS (cnt (tbB xs)) (tbC xs) (tbS2 xs false) := rfl
 have e2 : tbS2 xs false = tkS 1 (tbB xs) (itS lkR lkS (cnt (tb2 xs)) (tbA xs) (tbS1 xs false)) := rfl
 have eB : tbB xs = itR lkR (cnt (tb2 xs)) (tbA xs) := rfl
 have eC : tbC xs = tkR 1 (tbB xs) := rfl
 have tt : ∀ ys : List Int, tkS 1 ys true = true := fun _ => rfl
 have eO : tbO xs = ⟨nv 4 xs, nv 3 (tkR 4 xs), itL lkR lkO (cnt (tb2 xs)) (tbA xs), itL snR snO (cnt (tbB xs)) (tbC xs)⟩ := by unfold tbO; rfl
 have eR : tbR xs = itR snR (cnt (tbB xs)) (tbC xs) := rfl
 cases sh
 ·obtain ⟨p, q, r⟩ := h1.1 rfl
  rw [← eB] at q
  rw [r] at e2
  rw [q] at h2
  refine ⟨fun h => ?_, fun h => ?_⟩
  ·obtain ⟨a, b, c⟩ := h2.1 h
   exact ⟨by rw [eS, eC, e2]; exact c, by rw [eR, eC]; exact b.symm, by rw [eO, eC, p, a]⟩
  ·rw [eS, eC, e2]; exact h2.2 h
 ·have r := h1.2 rfl
  have hb : tbS xs false = true := by rw [eS, e2, r, tt]; exact itS_true snS_true _ true (Nat.zero_le _) rfl
  refine ⟨fun h => ?_, fun _ => hb⟩
  obtain ⟨_, _, c⟩ := h2.1 h
  rw [tt, itS_true snS_true _ true (Nat.zero_le _) rfl] at c
  cases c
structure Sq (w : World) (tq : Nat) (wr W : World) (q : Nat) (tm nx : Int) (v2 v3 : Value) (ms : List LkA) (ss : List Sn) (kc : Array Value) (xs : List Int) (sh : Bool) : Prop where
 sp : Sp w tq W tm nx v2 v3 ms ss xs sh
 k : W.heap[q]? = some (.cells kc 57 (0, 0))
 lo : Low wr.heap.size v2 v3 ms
 qn : tq < wr.heap.size ∧ wr.heap.size ≤ q
section
variable {w wr W W' : World} {tq q : Nat} {tm nx : Int} {v2 v3 : Value} {ms : List LkA} {ss : List Sn} {kc : Array Value} {xs ys : List Int} {sh sb : Bool}
theorem Sq.start (h : Sp w tq W tm nx v2 v3 ms ss xs sh) (kc : Array Value) : Sq w tq W (W.alloc (.cells kc 57)) W.heap.size tm nx v2 v3 ms ss kc xs sh :=
 ⟨h.up ((Below.refl _ _).alloc (Nat.le_refl _) _), heap_alloc_new _ _, Mem.low h.me, ⟨h.size, Nat.le_refl _⟩⟩
theorem Sq.num (h : Sq w tq wr W q tm nx v2 v3 ms ss kc xs sh) (r : Rdp W' (w.heap.size + 1) ys sb) (g : W.grownBy W' (some (w.heap.size + 1))) : Sq w tq wr W' q tm nx v2 v3 ms ss kc ys sb :=
 ⟨h.sp.num r g, blk_kept h.k g (by have := h.qn; have := h.sp.tl; omega), h.lo, h.qn⟩
theorem Sq.set (h : Sq w tq wr W q tm nx v2 v3 ms ss kc xs sh) (i : Nat) (v : Value) : Sq w tq wr (W.setCell ⟨q, i, none⟩ v) q tm nx v2 v3 ms ss (kc.setIfInBounds i v) xs sh :=
 ⟨h.sp.setn h.lo h.qn.1 h.qn.2 i v, blk_set h.k i v, h.lo, h.qn⟩
end
theorem row_oneS (W : World) (x : Sn) : RowS (W.alloc (.cells #[.int .i64 x.c, .int .i64 x.s, .int .i64 x.k, .int .i64 x.t, .int .i64 x.h, .int .i64 x.e] 57)) (.slice (some ⟨W.heap.size, 0, none⟩) 1 1) [x] := by
 refine ⟨_, _, rfl, .inr ⟨W.heap.size, 0, rfl, Nat.le_refl _, by simp, fun i y hi => ?_⟩⟩
 have h0 : i = 0 := by have := (List.getElem?_eq_some_iff.1 hi).1; simp at this; exact this
 subst h0
 simp at hi
 subst hi
 exact ⟨(Joins.cell_of_block (heap_alloc_new W _) _).trans rfl, (Joins.cell_of_block (heap_alloc_new W _) _).trans rfl, (Joins.cell_of_block (heap_alloc_new W _) _).trans rfl, (Joins.cell_of_block (heap_alloc_new W _) _).trans rfl, (Joins.cell_of_block (heap_alloc_new W _) _).trans rfl, (Joins.cell_of_block (heap_alloc_new W _) _).trans rfl⟩
theorem bys_nil {s : ByteArray} (h : bys s = []) : s = ⟨#[]⟩ := by rw [← str_bys s, h]; rfl
theorem Sp.done {w W : World} {tq : Nat} {tm nx : Int} {v2 v3 : Value} {ms : List LkA} {ss : List Sn} {xs : List Int} {sh : Bool} (h : Sp w tq W tm nx v2 v3 ms ss xs sh) :
 ((((W.setCell ⟨w.heap.size, 0, none⟩ (.int .i64 tm)).setCell ⟨w.heap.size, 1, none⟩ (.int .i64 nx)).setCell ⟨w.heap.size, 2, none⟩ v2).setCell ⟨w.heap.size, 3, none⟩ v3).heap[w.heap.size]? = some (.cells #[.int .i64 tm, .int .i64 nx, v2, v3] 26 (0, 0)) ∧ Below w.heap.size w ((((W.setCell ⟨w.heap.size, 0, none⟩ (.int .i64 tm)).setCell ⟨w.heap.size, 1, none⟩ (.int .i64 nx)).setCell ⟨w.heap.size, 2, none⟩ v2).setCell ⟨w.heap.size, 3, none⟩ v3) ∧ Mem ((((W.setCell ⟨w.heap.size, 0, none⟩ (.int .i64 tm)).setCell ⟨w.heap.size, 1, none⟩ (.int .i64 nx)).setCell ⟨w.heap.size, 2, none⟩ v2).setCell ⟨w.heap.size, 3, none⟩ v3) (w.heap.size + 2) v2 v3 ms ss :=
 ⟨blk_set (blk_set (blk_set (blk_set h.a 0 _) 1 _) 2 _) 3 _, Below.setCell (Below.setCell (Below.setCell (Below.setCell h.g (p := ⟨w.heap.size, 0, none⟩) (Nat.le_refl _) _) (p := ⟨w.heap.size, 1, none⟩) (Nat.le_refl _) _) (p := ⟨w.heap.size, 2, none⟩) (Nat.le_refl _) _) (p := ⟨w.heap.size, 3, none⟩) (Nat.le_refl _) _, h.me.kept fun g hg _ => (blk_far (by omega) 3 _).trans ((blk_far (by omega) 2 _).trans ((blk_far (by omega) 1 _).trans (blk_far (by omega) 0 _)))⟩
structure Rs (w : World) (tq : Nat) (s' : ByteArray) (W : World) (tm nx : Int) (v2 v3 : Value) (ms : List LkA) (ss : List Sn) (xs : List Int) (sh : Bool) : Prop where
 sp : Sp w tq W tm nx v2 v3 ms ss xs sh
 r : W.heap[w.heap.size + 1]? = some (.cells #[.string s', .bool sh] 110 (0, 0))
section
variable {w W W' : World} {tq : Nat} {s' : ByteArray} {tm nx : Int} {v2 v3 : Value} {ms : List LkA} {ss : List Sn} {xs : List Int} {sh : Bool}
theorem Rs.up (h : Rs w tq s' W tm nx v2 v3 ms ss xs sh) (hb : Below W.heap.size W W') : Rs w tq s' W' tm nx v2 v3 ms ss xs sh := ⟨h.sp.up hb, (hb.block _ (Array.getElem?_eq_some_iff.1 h.r).1).trans h.r⟩
theorem Rs.drew (h : Rs w tq s' W tm nx v2 v3 ms ss xs sh) : Rs w tq s' W.drew tm nx v2 v3 ms ss xs sh := ⟨h.sp.drew, h.r⟩
theorem Rs.cells (h : Rs w tq s' W tm nx v2 v3 ms ss xs sh) : W.cell? ⟨w.heap.size + 1, 0, none⟩ = some (.string s') ∧ W.cell? ⟨w.heap.size + 1, 1, none⟩ = some (.bool sh) ∧ W.cell? ⟨tq, 0, none⟩ = some (.int .i64 tm) ∧ W.cell? ⟨tq, 1, none⟩ = some (.int .i64 nx) ∧ W.cell? ⟨tq, 2, none⟩ = some v2 ∧ W.cell? ⟨tq, 3, none⟩ = some v3 :=
 ⟨(blk_cell h.r 0 rfl).1, (blk_cell h.r 1 rfl).1, (blk_cell h.sp.t 0 rfl).1, (blk_cell h.sp.t 1 rfl).1, (blk_cell h.sp.t 2 rfl).1, (blk_cell h.sp.t 3 rfl).1⟩
theorem Rs.cellsN (h : Rs w tq s' W tm nx v2 v3 ms ss xs sh) (x0 x1 x2 x3 : Value) : ((((W.setCell ⟨w.heap.size, 0, none⟩ x0).setCell ⟨w.heap.size, 1, none⟩ x1).setCell ⟨w.heap.size, 2, none⟩ x2).setCell ⟨w.heap.size, 3, none⟩ x3).cell? ⟨w.heap.size + 1, 0, none⟩ = some (.string s') ∧ ((((W.setCell ⟨w.heap.size, 0, none⟩ x0).setCell ⟨w.heap.size, 1, none⟩ x1).setCell ⟨w.heap.size, 2, none⟩ x2).setCell ⟨w.heap.size, 3, none⟩ x3).cell? ⟨w.heap.size + 1, 1, none⟩ = some (.bool sh) ∧ ((((W.setCell ⟨w.heap.size, 0, none⟩ x0).setCell ⟨w.heap.size, 1, none⟩ x1).setCell ⟨w.heap.size, 2, none⟩ x2).setCell ⟨w.heap.size, 3, none⟩ x3).cell? ⟨tq, 0, none⟩ = some (.int .i64 tm) ∧ ((((W.setCell ⟨w.heap.size, 0, none⟩ x0).setCell ⟨w.heap.size, 1, none⟩ x1).setCell ⟨w.heap.size, 2, none⟩ x2).setCell ⟨w.heap.size, 3, none⟩ x3).cell? ⟨tq, 1, none⟩ = some (.int .i64 nx) ∧ ((((W.setCell ⟨w.heap.size, 0, none⟩ x0).setCell ⟨w.heap.size, 1, none⟩ x1).setCell ⟨w.heap.size, 2, none⟩ x2).setCell ⟨w.heap.size, 3, none⟩ x3).cell? ⟨tq, 2, none⟩ = some v2 ∧ ((((W.setCell ⟨w.heap.size, 0, none⟩ x0).setCell ⟨w.heap.size, 1, none⟩ x1).setCell ⟨w.heap.size, 2, none⟩ x2).setCell ⟨w.heap.size, 3, none⟩ x3).cell? ⟨tq, 3, none⟩ = some v3 :=
 have h4 : ∀ k, k ≠ w.heap.size → ((((W.setCell ⟨w.heap.size, 0, none⟩ x0).setCell ⟨w.heap.size, 1, none⟩ x1).setCell ⟨w.heap.size, 2, none⟩ x2).setCell ⟨w.heap.size, 3, none⟩ x3).heap[k]? = W.heap[k]? := fun k hk => (blk_far hk 3 _).trans ((blk_far hk 2 _).trans ((blk_far hk 1 _).trans (blk_far hk 0 _)))
 have hr := (h4 _ (by omega)).trans h.r
 have ht := (h4 _ (by have := h.sp.tl; omega)).trans h.sp.t
 ⟨(blk_cell hr 0 rfl).1, (blk_cell hr 1 rfl).1, (blk_cell ht 0 rfl).1, (blk_cell ht 1 rfl).1, (blk_cell ht 2 rfl).1, (blk_cell ht 3 rfl).1⟩
end
def LrP (xs : List Int) (w : World) (e : Ending) (w' : World) : Prop := ∃ tm nx u2 u3 ms ss, e = .returned (.tuple #[tabV tm nx u2 u3, .bool (rtOK xs)]) ∧ (Mem w' w.heap.size u2 u3 ms ss ∧ (rtOK xs = true → tbO xs = ⟨tm, nx, ms.map (·.1), ss⟩)) ∧ Below w.heap.size w w'
theorem Agl.zero (n : Nat) (ys : List Int) (s0 : Bool) : Agl n ys s0 0 (([] : List LkA).map (·.1)) ys s0 :=
 ⟨fun h => ⟨rfl, rfl, h⟩, fun h => itS_true lkS_true ys s0 (Nat.zero_le n) h⟩
theorem start2 {w q2 : World} {tq : Nat} {z0 z1 : Int} {v2 v3 : Value} {ms : List LkA} {ss : List Sn} {xs : List Int} {sh : Bool} (h : Sp w tq q2 z0 z1 v2 v3 ms ss xs sh) (nm : ByteArray) :
 Sk w tq q2 ((q2.alloc (.cells #[] 93)).alloc (.cells #[.string nm, .int .i64 0, .int .i64 0, .int .i64 0, .slice (some ⟨q2.heap.size, 0, none⟩) 0 0] 52)) (q2.heap.size + 1) z0 z1 v2 v3 ms ss #[.string nm, .int .i64 0, .int .i64 0, .int .i64 0, .slice (some ⟨q2.heap.size, 0, none⟩) 0 0] (.slice (some ⟨q2.heap.size, 0, none⟩) 0 0) [] xs sh := by
 have e1 : (q2.alloc (.cells #[] 93)).heap.size = q2.heap.size + 1 := size_new _ _
 have B1 : Below q2.heap.size q2 ((q2.alloc (.cells #[] 93)).alloc (.cells #[.string nm, .int .i64 0, .int .i64 0, .int .i64 0, .slice (some ⟨q2.heap.size, 0, none⟩) 0 0] 52)) := ((Below.refl _ _).alloc (Nat.le_refl _) _).alloc (by rw [e1]; omega) _
 refine ⟨h.up B1, ?_, ?_, Mem.low h.me, ⟨h.size, by omega⟩⟩
 ·have := heap_alloc_new (q2.alloc (.cells #[] 93)) (.cells #[.string nm, .int .i64 0, .int .i64 0, .int .i64 0, .slice (some ⟨q2.heap.size, 0, none⟩) 0 0] 52)
  rw [e1] at this
  exact this
 ·exact (OwnW.made q2 q2.heap.size (Nat.le_refl _)).alloc _
theorem start1 {w w1 : World} {xs : List Int} {sh : Bool} (a : w1.heap[w.heap.size]? = some (.cells #[.int .i64 0, .int .i64 0, .slice none 0 0, .slice none 0 0] 26 (0, 0))) (r : Rdp w1 (w.heap.size + 1) xs sh) (g : Below w.heap.size w w1) (hw : w.heap.size + 2 ≤ w1.heap.size) (z : Int) :
 Sp w (w1.heap.size + 1 + 1) (((w1.alloc (.cells #[] 52)).alloc (.cells #[] 57)).alloc (.cells #[.int .i64 z, .int .i64 0, .slice (some ⟨w1.heap.size, 0, none⟩) 0 0, .slice (some ⟨w1.heap.size + 1, 0, none⟩) 0 0] 26)) z 0 (.slice (some ⟨w1.heap.size, 0, none⟩) 0 0) (.slice (some ⟨w1.heap.size + 1, 0, none⟩) 0 0) [] [] xs sh := by
 have e1 : (w1.alloc (.cells #[] 52)).heap.size = w1.heap.size + 1 := size_new _ _
 have e2 : ((w1.alloc (.cells #[] 52)).alloc (.cells #[] 57)).heap.size = w1.heap.size + 1 + 1 := by rw [size_new, e1]
 have B1 : Below w1.heap.size w1 (((w1.alloc (.cells #[] 52)).alloc (.cells #[] 57)).alloc (.cells #[.int .i64 z, .int .i64 0, .slice (some ⟨w1.heap.size, 0, none⟩) 0 0, .slice (some ⟨w1.heap.size + 1, 0, none⟩) 0 0] 26)) := (((Below.refl _ _).alloc (Nat.le_refl _) _).alloc (by rw [e1]; omega) _).alloc (by rw [e2]; omega) _
 refine ⟨(B1.block _ (by omega)).trans a, r.kept (B1.block _ (by omega)), ?_, g.trans (B1.mono (by omega)), ⟨?_, (fun m hm => by cases hm), List.Pairwise.nil, ?_⟩, by omega⟩
 ·have := heap_alloc_new ((w1.alloc (.cells #[] 52)).alloc (.cells #[] 57)) (.cells #[.int .i64 z, .int .i64 0, .slice (some ⟨w1.heap.size, 0, none⟩) 0 0, .slice (some ⟨w1.heap.size + 1, 0, none⟩) 0 0] 26)
  rw [e2] at this
  exact this
 ·have h : OwnL (w1.alloc (.cells #[] 52)) (w.heap.size + 2) (.slice (some ⟨w1.heap.size, 0, none⟩) 0 0) [] := World.ownsRow_made w1 #[] 0 hw (by decide) rfl
  exact h.kept fun g hg => by
   have := (h.lt g hg).2
   exact (Below.heap_alloc _ _ _ (by rw [e2]; omega)).trans (Below.heap_alloc _ _ _ this)
 ·have h : OwnS ((w1.alloc (.cells #[] 52)).alloc (.cells #[] 57)) (w.heap.size + 2) (.slice (some ⟨w1.heap.size + 1, 0, none⟩) 0 0) [] := by
   have := OwnS.made (w1.alloc (.cells #[] 52)) (w.heap.size + 2) (by rw [e1]; omega)
   rw [e1] at this
   exact this
  exact h.kept fun g hg => Below.heap_alloc _ _ _ (h.lt g hg).2
set_option maxRecDepth 100000 in
set_option maxHeartbeats 6400000 in
theorem l05Read_any (s : ByteArray) (w : World) (hs : s.size ≤ 65536) :
 Calls Tryd.prog 35 #[.string s] w fun e w' => LrP (bys s) w e w' := by
 obtain ⟨i0, hi0, hz0, hz1, hz2⟩ := info_parts infoL
 obtain ⟨j0, hj0, hy0, hy1, hy2⟩ := info_parts infoS
 obtain ⟨k0, hk0, hx0, hx1, hx2⟩ := info_parts infoW
 obtain ⟨xs, HXS⟩ : ∃ xs, Hid (bys s = xs) := ⟨_, rfl⟩
 have HR0 : Hid (∀ x ∈ xs, 0 ≤ x ∧ x ≤ 255) := by rw [← HXS.out]; exact bys_range s
 have HRX : Hid (∀ x ∈ xs, 0 ≤ x ∧ x ≤ 255) := HR0
 have R0 : Hid (Rdp ((w.alloc (.cells #[.int .i64 0, .int .i64 0, .slice none 0 0, .slice none 0 0] 26)).alloc (.cells #[.string s, .bool false] 110)) (w.heap.size + 1) xs false) := by
  refine ⟨s, ?_, (fun _ => HXS.out), (fun h => by cases h), hs⟩
  have := heap_alloc_new (w.alloc (.cells #[.int .i64 0, .int .i64 0, .slice none 0 0, .slice none 0 0] 26)) (.cells #[.string s, .bool false] 110)
  rw [size_new] at this
  exact this
 have A0 : Hid (((w.alloc (.cells #[.int .i64 0, .int .i64 0, .slice none 0 0, .slice none 0 0] 26)).alloc (.cells #[.string s, .bool false] 110)).heap[w.heap.size]? = some (.cells #[.int .i64 0, .int .i64 0, .slice none 0 0, .slice none 0 0] 26 (0, 0)) ∧ Below w.heap.size w ((w.alloc (.cells #[.int .i64 0, .int .i64 0, .slice none 0 0, .slice none 0 0] 26)).alloc (.cells #[.string s, .bool false] 110)) ∧ ((w.alloc (.cells #[.int .i64 0, .int .i64 0, .slice none 0 0, .slice none 0 0] 26)).alloc (.cells #[.string s, .bool false] 110)).heap.size = w.heap.size + 2) :=
  ⟨(Below.heap_alloc _ _ _ (by simp)).trans (heap_alloc_new _ _), ((Below.refl _ _).alloc (Nat.le_refl _) _).alloc (by simp) _, by rw [size_new, size_new]⟩
 rw [HXS.out]
 clear HXS
 go_enter Tryd.func35, Tryd.ntmps35
 go_wp2_with fail
 generalize (w.alloc (.cells #[.int .i64 0, .int .i64 0, .slice none 0 0, .slice none 0 0] 26)).alloc (.cells #[.string s, .bool false] 110) = w0 at R0 A0 ⊢
 have N0 := number_any 4 _ xs false w0 R0.out (by decide) HR0.out
 obtain ⟨z0, HZ0⟩ : ∃ z, Hid (nv 4 xs = z) := ⟨_, rfl⟩
 rw [HZ0.out] at N0
 refine N0.mono ?_
 rintro e w1 ⟨rfl, r1, g1⟩
 have HR1 : Hid (∀ x ∈ tkR 4 xs, 0 ≤ x ∧ x ≤ 255) := tkR_range HR0.out
 have hw1 : w.heap.size + 2 ≤ w1.heap.size := by have := A0.out.2.2; have := g1.size; omega
 have S1 : Hid (w1.heap[w.heap.size]? = some (.cells #[.int .i64 0, .int .i64 0, .slice none 0 0, .slice none 0 0] 26 (0, 0)) ∧ Below w.heap.size w w1 ∧ Rdp w1 (w.heap.size + 1) (tkR 4 xs) (tkS 4 xs false)) := ⟨blk_kept A0.out.1 g1 (by omega), A0.out.2.1.trans (gb g1 R0.out.lt (by omega)), r1⟩
 have T1 : Hid (Sp w (w1.heap.size + 1 + 1) (((w1.alloc (.cells #[] 52)).alloc (.cells #[] 57)).alloc (.cells #[.int .i64 z0, .int .i64 0, .slice (some ⟨w1.heap.size, 0, none⟩) 0 0, .slice (some ⟨w1.heap.size + 1, 0, none⟩) 0 0] 26)) z0 0 (.slice (some ⟨w1.heap.size, 0, none⟩) 0 0) (.slice (some ⟨w1.heap.size + 1, 0, none⟩) 0 0) [] [] (tkR 4 xs) (tkS 4 xs false)) := start1 S1.out.1 S1.out.2.2 S1.out.2.1 hw1 z0
 clear N0 r1 g1 R0 A0 HR0 S1
 go_wp2_with fail
 generalize (((w1.alloc (.cells #[] 52)).alloc (.cells #[] 57)).alloc (.cells #[.int .i64 z0, .int .i64 0, .slice (some ⟨w1.heap.size, 0, none⟩) 0 0, .slice (some ⟨w1.heap.size + 1, 0, none⟩) 0 0] 26)) = w1' at T1 ⊢
 generalize w1.heap.size + 1 + 1 = tq at T1 ⊢
 generalize (some (⟨w1.heap.size, 0, none⟩ : Addr)) = la at T1 ⊢
 generalize (some (⟨w1.heap.size + 1, 0, none⟩ : Addr)) = sa at T1 ⊢
 have N1 := number_any 3 _ (tkR 4 xs) (tkS 4 xs false) w1' T1.out.rd (by decide) HR1.out
 obtain ⟨z1, HZ1⟩ : ∃ z, Hid (nv 3 (tkR 4 xs) = z) := ⟨_, rfl⟩
 rw [HZ1.out] at N1
 refine N1.mono ?_
 rintro e w2 ⟨rfl, r2, g2⟩
 have HR2 : Hid (∀ x ∈ tb2 xs, 0 ≤ x ∧ x ≤ 255) := tkR_range HR1.out
 have t2 := T1.out.num r2 g2
 obtain ⟨c1, f1⟩ := blk_cell t2.t 1 (x := .int .i64 0) rfl
 have T2 : Hid (Sp w tq (w2.setCell ⟨tq, 1, none⟩ (.int .i64 z1)) z0 z1 (.slice la 0 0) (.slice sa 0 0) [] [] (tb2 xs) (tkS 3 (tkR 4 xs) (tkS 4 xs false))) := t2.set1 z1
 clear T1 N1 r2 g2 t2 HR1 hw1
 go_wp2_with fail
 clear c1 f1
 generalize w2.setCell ⟨tq, 1, none⟩ (.int .i64 z1) = w2' at T2 ⊢
 have N2 := number_any 1 _ (tb2 xs) (tkS 3 (tkR 4 xs) (tkS 4 xs false)) w2' T2.out.rd (by decide) HR2.out
 rw [cnt_eq HR2.out] at N2
 have hc2 : cnt (tb2 xs) ≤ 255 := cnt_le HR2.out
 have HRA : Hid (∀ x ∈ tbA xs, 0 ≤ x ∧ x ≤ 255) := tkR_range HR2.out
 refine N2.mono ?_
 rintro e w3 ⟨rfl, r3, g3⟩
 have T3 : Hid (Sp w tq w3 z0 z1 (.slice la 0 0) (.slice sa 0 0) [] [] (tbA xs) (tbS1 xs false)) := T2.out.num r3 g3
 clear T2 N2 r3 g3 HR2
 go_wp2_with fail
 obtain ⟨n, HNN⟩ : ∃ n, Hid (cnt (tb2 xs) = n) := ⟨_, rfl⟩
 rw [HNN.out] at hc2 ⊢
 obtain ⟨y0, HY0⟩ : ∃ y, Hid (tbA xs = y) := ⟨_, rfl⟩
 obtain ⟨s0, HS0⟩ : ∃ y, Hid (tbS1 xs false = y) := ⟨_, rfl⟩
 rw [HY0.out, HS0.out] at T3
 rw [HY0.out] at HRA
 go_loopw [6] (fun i wr => ∃ (k : Nat) (a : Option Addr) (c : Nat) (ms : List LkA) (ys : List Int) (sh : Bool), k ≤ n ∧ i = .int .i64 ((n : Int) - (k : Int)) ∧ Hid (ms.length = k ∧ Agl n y0 s0 k (ms.map (·.1)) ys sh ∧ Sp w tq wr z0 z1 (.slice a k c) (.slice sa 0 0) ms [] ys sh ∧ ∀ x ∈ ys, 0 ≤ x ∧ x ≤ 255)) (fun i _ => (intOf i).toNat)
 case atStart => exact ⟨0, la, 0, [], y0, s0, by omega, by simp, rfl, Agl.zero _ _ _, T3.out, HRA.out⟩
 case round =>
  clear T3 HRA
  obtain ⟨k, a, c, ms, ys, sh, hk, rfl, HT⟩ := hrel
  by_cases hlt : k < n
  focus
   rcases Bool.eq_false_or_eq_true sh with hsh | hsh
   focus
    subst hsh
    have hbad := HT.out.2.2.1.bad
    have HFL : Hid (Fl n y0 s0 (ms.map (·.1)) ys true) := ⟨(fun h => by cases h), HT.out.2.1.t⟩
    have M0 := number_any 1 _ ys true wr HT.out.2.2.1.rd (by decide) HT.out.2.2.2
    rw [cnt_eq HT.out.2.2.2] at M0
    have hc3 : cnt ys ≤ 255 := cnt_le HT.out.2.2.2
    have HRC : Hid (∀ x ∈ tkR 1 ys, 0 ≤ x ∧ x ≤ 255) := tkR_range HT.out.2.2.2
    have HLM : Hid (ms.length = k) := HT.out.1
    go_wp2_with fail
    refine M0.mono ?_
    rintro e w5 ⟨rfl, r, g⟩
    have T5 : Hid (Sp w tq w5 z0 z1 (.slice a k c) (.slice sa 0 0) ms [] (tkR 1 ys) (tkS 1 ys true)) := HT.out.2.2.1.num r g
    obtain ⟨n3, HN3⟩ : ∃ n, Hid (cnt ys = n) := ⟨_, rfl⟩
    obtain ⟨y2, HY2⟩ : ∃ y, Hid (tkR 1 ys = y) := ⟨_, rfl⟩
    obtain ⟨s2, HS2⟩ : ∃ y, Hid (tkS 1 ys true = y) := ⟨_, rfl⟩
    rw [HN3.out] at hc3
    rw [HN3.out]
    rw [HY2.out] at T5 HRC
    rw [HS2.out] at T5
    have HFO : Hid (∀ (ss : List Sn) (zs : List Int) (sb : Bool), (sb = false → ss = itL snR snO n3 y2 ∧ zs = itR snR n3 y2 ∧ itS snR snS n3 y2 s2 = false) ∧ (sb = true → itS snR snS n3 y2 s2 = true) → (sb = false → tbS xs false = false ∧ tbR xs = zs ∧ tbO xs = ⟨z0, z1, ms.map (·.1), ss⟩) ∧ (sb = true → tbS xs false = true)) := fun ss zs sb h => by
     rw [← HN3.out, ← HY2.out, ← HS2.out] at h
     rw [← HZ0.out, ← HZ1.out]
     have hf := HFL.out
     rw [← HNN.out, ← HY0.out, ← HS0.out] at hf
     exact fin_ok hf h
    clear HT M0 r g HFL HN3 HY2 HS2
    try clear hbad
   rotate_left
   ·subst hsh
    have hbad := HT.out.2.2.1.bad
    have M0 := number_any 1 _ ys false wr HT.out.2.2.1.rd (by decide) HT.out.2.2.2
    rw [cnt_eq HT.out.2.2.2] at M0
    have hcy : cnt ys ≤ 255 := cnt_le HT.out.2.2.2
    have HRQ : Hid (∀ x ∈ tkR 1 ys, 0 ≤ x ∧ x ≤ 255) := tkR_range HT.out.2.2.2
    have HGL : Hid (ms.length = k ∧ Agl n y0 s0 k (ms.map (·.1)) ys false) := ⟨HT.out.1, HT.out.2.1⟩
    go_wp2_with fail
    refine M0.mono ?_
    rintro e q1 ⟨rfl, r, g⟩
    have P1 : Hid (Sp w tq q1 z0 z1 (.slice a k c) (.slice sa 0 0) ms [] (tkR 1 ys) (tkS 1 ys false)) := HT.out.2.2.1.num r g
    clear M0 r g HT hbad
    have M1 := text_any (cnt ys) _ (tkR 1 ys) (tkS 1 ys false) q1 P1.out.rd (by omega)
    have HRT : Hid (∀ x ∈ txtR 1 ys, 0 ≤ x ∧ x ≤ 255) := tkR_range HRQ.out
    have HET : Hid (strOfNums (tkB (cnt ys) (tkR 1 ys)) = txtB 1 ys ∧ tkR (cnt ys) (tkR 1 ys) = txtR 1 ys ∧ tkS (cnt ys) (tkR 1 ys) (tkS 1 ys false) = txtS 1 ys false) := ⟨rfl, rfl, rfl⟩
    rw [HET.out.1, HET.out.2.1, HET.out.2.2] at M1
    obtain ⟨nm, HNM⟩ : ∃ y, Hid (txtB 1 ys = y) := ⟨_, rfl⟩
    rw [HNM.out] at M1
    go_wp2_with fail
    refine M1.mono ?_
    rintro e q2 ⟨rfl, r, g⟩
    have P2 := P1.out.num r g
    have K0 : Hid (Sk w tq q2 ((q2.alloc (.cells #[] 93)).alloc (.cells #[.string nm, .int .i64 0, .int .i64 0, .int .i64 0, .slice (some ⟨q2.heap.size, 0, none⟩) 0 0] 52)) (q2.heap.size + 1) z0 z1 (.slice a k c) (.slice sa 0 0) ms [] #[.string nm, .int .i64 0, .int .i64 0, .int .i64 0, .slice (some ⟨q2.heap.size, 0, none⟩) 0 0] (.slice (some ⟨q2.heap.size, 0, none⟩) 0 0) [] (txtR 1 ys) (txtS 1 ys false)) := start2 P2 nm
    clear P2 P1 M1 r g HRQ HET hcy
    go_wp2_with fail
    generalize ((q2.alloc (.cells #[] 93)).alloc (.cells #[.string nm, .int .i64 0, .int .i64 0, .int .i64 0, .slice (some ⟨q2.heap.size, 0, none⟩) 0 0] 52)) = q2' at K0 ⊢
    generalize q2.heap.size + 1 = q at K0 ⊢
    generalize (some (⟨q2.heap.size, 0, none⟩ : Addr)) = ua at K0 ⊢
    have M3 := number_any 3 _ (txtR 1 ys) (txtS 1 ys false) _ K0.out.sp.rd (by decide) HRT.out
    have nb0 := nv_range (n := 3) HRT.out
    simp only [show ((256 : Int) ^ 3) = 16777216 from rfl] at nb0
    have HRT1 : Hid (∀ x ∈ tkR 3 (txtR 1 ys), 0 ≤ x ∧ x ≤ 255) := tkR_range HRT.out
    obtain ⟨t0, HT0⟩ : ∃ y, Hid (nv 3 (txtR 1 ys) = y) := ⟨_, rfl⟩
    rw [HT0.out] at M3 nb0
    refine M3.mono ?_
    rintro e u0 ⟨rfl, r, g⟩
    have l := K0.out.num r g
    obtain ⟨c0, f0⟩ := blk_cell l.k 1 (x := .int .i64 0) rfl
    have K1 : Hid (Sk w tq q2 (u0.setCell ⟨q, 1, none⟩ (.int .i64 t0)) q z0 z1 (.slice a k c) (.slice sa 0 0) ms [] #[.string nm, .int .i64 t0, .int .i64 0, .int .i64 0, .slice ua 0 0] (.slice ua 0 0) [] (tkR 3 (txtR 1 ys)) (tkS 3 (txtR 1 ys) (txtS 1 ys false))) := l.set 1 _
    clear l r g K0 M3 HRT
    go_wp2_with fail
    clear c0 f0 nb0
    generalize u0.setCell ⟨q, 1, none⟩ (.int .i64 t0) = u0' at K1 ⊢
    have M4 := number_any 2 _ (tkR 3 (txtR 1 ys)) (tkS 3 (txtR 1 ys) (txtS 1 ys false)) _ K1.out.sp.rd (by decide) HRT1.out
    have nb1 := nv_range (n := 2) HRT1.out
    simp only [show ((256 : Int) ^ 2) = 65536 from rfl] at nb1
    have HRT2 : Hid (∀ x ∈ tkR 2 (tkR 3 (txtR 1 ys)), 0 ≤ x ∧ x ≤ 255) := tkR_range HRT1.out
    obtain ⟨t1, HT1⟩ : ∃ y, Hid (nv 2 (tkR 3 (txtR 1 ys)) = y) := ⟨_, rfl⟩
    rw [HT1.out] at M4 nb1
    refine M4.mono ?_
    rintro e u1 ⟨rfl, r, g⟩
    have l := K1.out.num r g
    obtain ⟨c0, f0⟩ := blk_cell l.k 2 (x := .int .i64 0) rfl
    have K2 : Hid (Sk w tq q2 (u1.setCell ⟨q, 2, none⟩ (.int .i64 (t1 - 1))) q z0 z1 (.slice a k c) (.slice sa 0 0) ms [] #[.string nm, .int .i64 t0, .int .i64 (t1 - 1), .int .i64 0, .slice ua 0 0] (.slice ua 0 0) [] (tkR 2 (tkR 3 (txtR 1 ys))) (tkS 2 (tkR 3 (txtR 1 ys)) (tkS 3 (txtR 1 ys) (txtS 1 ys false)))) := l.set 2 _
    clear l r g K1 M4 HRT1
    go_wp2_with fail
    clear c0 f0 nb1
    generalize u1.setCell ⟨q, 2, none⟩ (.int .i64 (t1 - 1)) = u1' at K2 ⊢
    have M5 := number_any 4 _ (tkR 2 (tkR 3 (txtR 1 ys))) (tkS 2 (tkR 3 (txtR 1 ys)) (tkS 3 (txtR 1 ys) (txtS 1 ys false))) _ K2.out.sp.rd (by decide) HRT2.out
    have nb2 := nv_range (n := 4) HRT2.out
    simp only [show ((256 : Int) ^ 4) = 4294967296 from rfl] at nb2
    have HRT3 : Hid (∀ x ∈ tkR 4 (tkR 2 (tkR 3 (txtR 1 ys))), 0 ≤ x ∧ x ≤ 255) := tkR_range HRT2.out
    obtain ⟨t2, HT2⟩ : ∃ y, Hid (nv 4 (tkR 2 (tkR 3 (txtR 1 ys))) = y) := ⟨_, rfl⟩
    rw [HT2.out] at M5 nb2
    refine M5.mono ?_
    rintro e u2 ⟨rfl, r, g⟩
    have l := K2.out.num r g
    obtain ⟨c0, f0⟩ := blk_cell l.k 3 (x := .int .i64 0) rfl
    have K3 : Hid (Sk w tq q2 (u2.setCell ⟨q, 3, none⟩ (.int .i64 t2)) q z0 z1 (.slice a k c) (.slice sa 0 0) ms [] #[.string nm, .int .i64 t0, .int .i64 (t1 - 1), .int .i64 t2, .slice ua 0 0] (.slice ua 0 0) [] (tkR 4 (tkR 2 (tkR 3 (txtR 1 ys)))) (tkS 4 (tkR 2 (tkR 3 (txtR 1 ys))) (tkS 2 (tkR 3 (txtR 1 ys)) (tkS 3 (txtR 1 ys) (txtS 1 ys false))))) := l.set 3 _
    clear l r g K2 M5 HRT2
    go_wp2_with fail
    clear c0 f0 nb2
    generalize u2.setCell ⟨q, 3, none⟩ (.int .i64 t2) = u2' at K3 ⊢
    have HE3 : Hid (lk3 ys = tkR 4 (tkR 2 (tkR 3 (txtR 1 ys))) ∧ lkS3 ys false = tkS 4 (tkR 2 (tkR 3 (txtR 1 ys))) (tkS 2 (tkR 3 (txtR 1 ys)) (tkS 3 (txtR 1 ys) (txtS 1 ys false)))) := ⟨rfl, rfl⟩
    rw [← HE3.out.1, ← HE3.out.2] at K3
    rw [← HE3.out.1] at HRT3
    have M6 := number_any 1 _ (lk3 ys) (lkS3 ys false) _ K3.out.sp.rd (by decide) HRT3.out
    rw [cnt_eq HRT3.out] at M6
    have hc4 : cnt (lk3 ys) ≤ 255 := cnt_le HRT3.out
    have HRW : Hid (∀ k, ∀ x ∈ itR wtR k (tkR 1 (lk3 ys)), 0 ≤ x ∧ x ≤ 255) := fun k => (less_it less_wt k _).2 (tkR_range HRT3.out)
    have HAG : Hid (∀ q, q ≤ cnt (lk3 ys) → (q = cnt (lk3 ys) ∨ itS wtR wtS q (tkR 1 (lk3 ys)) (tkS 1 (lk3 ys) (lkS3 ys false)) = true) → Agk ys ⟨nm, t0, t1 - 1, t2, itL wtR wtO q (tkR 1 (lk3 ys))⟩ (itR wtR q (tkR 1 (lk3 ys))) (itS wtR wtS q (tkR 1 (lk3 ys)) (tkS 1 (lk3 ys) (lkS3 ys false)))) := fun q h1 h2 => by
     rw [← HNM.out, ← HT0.out, ← HT1.out, ← HT2.out]
     exact agk h1 h2
    refine M6.mono ?_
    rintro e u4 ⟨rfl, r, g⟩
    have K4 : Hid (Sk w tq q2 u4 q z0 z1 (.slice a k c) (.slice sa 0 0) ms [] #[.string nm, .int .i64 t0, .int .i64 (t1 - 1), .int .i64 t2, .slice ua 0 0] (.slice ua 0 0) [] (tkR 1 (lk3 ys)) (tkS 1 (lk3 ys) (lkS3 ys false))) := K3.out.num r g
    obtain ⟨n2, HN2⟩ : ∃ n, Hid (cnt (lk3 ys) = n) := ⟨_, rfl⟩
    obtain ⟨y1, HY1⟩ : ∃ y, Hid (tkR 1 (lk3 ys) = y) := ⟨_, rfl⟩
    obtain ⟨s1, HS1⟩ : ∃ y, Hid (tkS 1 (lk3 ys) (lkS3 ys false) = y) := ⟨_, rfl⟩
    rw [HN2.out] at hc4 HAG
    rw [HN2.out]
    rw [HY1.out] at K4 HAG HRW
    rw [HS1.out] at K4 HAG
    clear r g K3 M6 HRT3 HE3 HN2 HY1 HS1 HNM HT0 HT1 HT2
    go_wp2_with fail
    go_loopw [9] (fun j wr => ∃ (k2 : Nat) (a2 : Option Addr) (c2 : Nat), k2 ≤ n2 ∧ j = .int .i64 ((n2 : Int) - (k2 : Int)) ∧ Hid (Sk w tq q2 wr q z0 z1 (.slice a k c) (.slice sa 0 0) ms [] #[.string nm, .int .i64 t0, .int .i64 (t1 - 1), .int .i64 t2, .slice a2 k2 c2] (.slice a2 k2 c2) (itL wtR wtO k2 y1) (itR wtR k2 y1) (itS wtR wtS k2 y1 s1))) (fun j _ => (intOf j).toNat)
    case atStart => exact ⟨0, ua, 0, by omega, by simp, K4.out⟩
    case round =>
     clear K4
     obtain ⟨k2, a2, c2, hk2, rfl, HK⟩ := hrel
     have HRK := HRW.out k2
     obtain ⟨ws, HWS⟩ : ∃ y, Hid (itL wtR wtO k2 y1 = y) := ⟨_, rfl⟩
     obtain ⟨zs, HZS⟩ : ∃ y, Hid (itR wtR k2 y1 = y) := ⟨_, rfl⟩
     obtain ⟨sb, HSB⟩ : ∃ y, Hid (itS wtR wtS k2 y1 s1 = y) := ⟨_, rfl⟩
     rw [HWS.out, HZS.out, HSB.out] at HK
     rw [HZS.out] at HRK
     have hbad := HK.out.sp.bad
     by_cases hlt2 : k2 < n2
     ·rcases Bool.eq_false_or_eq_true sb with hsb | hsb
      ·subst hsb
       have HEX : k2 = n2 ∨ itS wtR wtS k2 y1 s1 = true := .inr HSB.out
       have HG := HAG.out k2 hk2 HEX
       rw [HWS.out, HZS.out, HSB.out] at HG
       have HL2 : ws.length = k2 := by rw [← HWS.out]; exact itL_len _ _ _ _
       clear HWS HZS HSB HAG HRW
       obtain rfl := HL2
       have HGN : Hid (Agl n y0 s0 (k + 1) (ms.map (·.1) ++ [⟨nm, t0, t1 - 1, t2, ws⟩]) zs true) := HGL.out.2.next hlt HG
       have HLN : Hid (ms.length ≤ 1000000) := by show _ ≤ _; rw [HGL.out.1]; omega
       have HRZ : Hid (∀ x ∈ zs, 0 ≤ x ∧ x ≤ 255) := HRK
       have K6 : Hid (Sk w tq q2 wr q z0 z1 (.slice a k c) (.slice sa 0 0) ms [] #[.string nm, .int .i64 t0, .int .i64 (t1 - 1), .int .i64 t2, .slice a2 ws.length c2] (uV (⟨nm, t0, t1 - 1, t2, ws⟩, a2, c2)) ws zs true) := HK.out
       have cb0 := (blk_cell K6.out.k 0 (x := .string nm) rfl).1
       have cb1 := (blk_cell K6.out.k 1 (x := .int .i64 t0) rfl).1
       have cb2 := (blk_cell K6.out.k 2 (x := .int .i64 (t1 - 1)) rfl).1
       have cb3 := (blk_cell K6.out.k 3 (x := .int .i64 t2) rfl).1
       have cb4 := (blk_cell K6.out.k 4 (x := .slice a2 ws.length c2) rfl).1
       have ct2 := (blk_cell K6.out.sp.t 2 (x := .slice a k c) rfl).1
       have OL : OwnL wr (w.heap.size + 2) (.slice a k c) ms := K6.out.sp.me.ol
       have SZ : w.heap.size + 2 ≤ wr.heap.size := by have h1 := K6.out.sp.tl; have h2 := K6.out.sp.size; omega
       have HLM : Hid (ms.length = k) := HGL.out.1
       clear HK HG HRK HEX HGL
       go_wp2_with (at_builtin; go_must (refine list_lk (by rfl) _ _ 23 (by rfl) i0 Tryd.underlying23 hi0 hz0 hz1 hz2 (w.heap.size + 2) wr wr (.slice a k c) ms (⟨nm, t0, t1 - 1, t2, ws⟩, a2, c2) (by rfl) OL (Below.refl _ _) SZ _ (by rfl) (by rfl) HLN.out ?_; intro v5 w5 o5 b5 k5; obtain ⟨a5, cap5, rfl⟩ := o5.slice; obtain ⟨s5, f5, j5⟩ := K6.out.join o5 b5 k5))
       have hl5 : (ms ++ [((⟨nm, t0, t1 - 1, t2, ws⟩ : Lk), a2, c2)]).length = k + 1 := by rw [List.length_append, HLM.out]; rfl
       rw [hl5] at j5
       rw [HLM.out]
       have T6 : Hid (Sp w tq (w5.setCell ⟨tq, 2, none⟩ (.slice a5 (k + 1) cap5)) z0 z1 (.slice a5 (k + 1) cap5) (.slice sa 0 0) (ms ++ [(⟨nm, t0, t1 - 1, t2, ws⟩, a2, c2)]) [] zs true) := j5
       exact ⟨⟨k + 1, a5, cap5, ms ++ [(⟨nm, t0, t1 - 1, t2, ws⟩, a2, c2)], zs, true, by omega, by go_num, hl5, by rw [List.map_append]; exact HGN.out, T6.out, HRZ.out⟩, by simp [intOf]; omega⟩
      ·subst hsb
       have HNX : Hid (itL wtR wtO (k2 + 1) y1 = ws ++ [wtO zs] ∧ itR wtR (k2 + 1) y1 = wtR zs ∧ itS wtR wtS (k2 + 1) y1 s1 = wtS zs false) := ⟨by rw [itL_succ, HWS.out, HZS.out], by rw [itR_succ, HZS.out], by rw [itS_succ, HZS.out, HSB.out]⟩
       have HLW : Hid (ws.length = k2) := by rw [← HWS.out]; exact itL_len _ _ _ _
       have HLN : Hid (ws.length ≤ 1000000) := by show _ ≤ _; rw [HLW.out]; omega
       have M0 := number_any 1 _ zs false wr HK.out.sp.rd (by decide) HRK
       have HR1 : Hid (∀ x ∈ tkR 1 zs, 0 ≤ x ∧ x ≤ 255) := tkR_range HRK
       obtain ⟨cc, HCC⟩ : ∃ y, Hid (nv 1 zs = y) := ⟨_, rfl⟩
       rw [HCC.out] at M0
       clear HWS HZS HSB HAG HRW HGL
       go_wp2_with fail
       refine M0.mono ?_
       rintro e p1 ⟨rfl, r, g⟩
       have t0' := HK.out.num r g
       have HTL : Hid (∀ W, Sk w tq q2 W q z0 z1 (.slice a k c) (.slice sa 0 0) ms [] #[.string nm, .int .i64 t0, .int .i64 (t1 - 1), .int .i64 t2, .slice a2 k2 c2] (.slice a2 k2 c2) ws (tkR 1 zs) (tkS 1 zs false) → Calls Tryd.prog 66 #[.pointer (some ⟨w.heap.size + 1, 0, none⟩), .int .i64 2] W fun e w' => e = .returned (.int .i64 (nv 2 (tkR 1 zs))) ∧ Sk w tq q2 w' q z0 z1 (.slice a k c) (.slice sa 0 0) ms [] #[.string nm, .int .i64 t0, .int .i64 (t1 - 1), .int .i64 t2, .slice a2 k2 c2] (.slice a2 k2 c2) ws (tkR 2 (tkR 1 zs)) (tkS 2 (tkR 1 zs) (tkS 1 zs false))) := fun W hW => by
        refine (number_any 2 _ (tkR 1 zs) (tkS 1 zs false) W hW.sp.rd (by decide) HR1.out).mono ?_
        rintro e w' ⟨rfl, r, g⟩
        exact ⟨rfl, hW.num r g⟩
       have HWT : Hid (wtO zs = ⟨cc, nv 2 (tkR 1 zs)⟩ ∧ wtR zs = tkR 2 (tkR 1 zs) ∧ wtS zs false = tkS 2 (tkR 1 zs) (tkS 1 zs false)) := ⟨by rw [← HCC.out]; rfl, rfl, rfl⟩
       clear M0 r g HK hbad HRK
       obtain ⟨cl, HCL⟩ : ∃ y, Hid (nv 2 (tkR 1 zs) = y) := ⟨_, rfl⟩
       obtain ⟨z2, HZ2⟩ : ∃ y, Hid (tkR 2 (tkR 1 zs) = y) := ⟨_, rfl⟩
       obtain ⟨b2, HB2⟩ : ∃ y, Hid (tkS 2 (tkR 1 zs) (tkS 1 zs false) = y) := ⟨_, rfl⟩
       rw [HCL.out, HZ2.out, HB2.out] at HTL HWT
       have q0 := blk_cell t0'.k 4 (x := .slice a2 k2 c2) rfl
       have q1 := blk_cell t0'.drew.k 4 (x := .slice a2 k2 c2) rfl
       go_upto_region 16 with fail
       go_region_law
        (first
          | (go_simp; go_at_call 66; (with_reducible refine (HTL.out _ (by first | assumption | exact Sk.drew (by assumption))).mono ?_); rintro e wn ⟨rfl, tn⟩; have qn := blk_cell tn.k 4 (x := .slice a2 k2 c2) rfl; have qa := fun o => blk_cell (tn.alloc o).k 4 (x := .slice a2 k2 c2) rfl; have qd := blk_cell tn.drew.k 4 (x := .slice a2 k2 c2) rfl; try go_simp)
          | (refine step_wt (by rfl) _ _ 50 (by rfl) Tryd.underlying50 hk0 hx0 hx1 hx2 _ w q2 tq q z0 z1 _ _ ms [] _ _ ws ⟨cc, cl⟩ z2 b2 (by rfl) _ (by rfl) (by first | exact heap_alloc_new _ _ | exact (heap_alloc_new _ _ : (World.alloc _ _).drew.heap[_]? = _)) (by first | assumption | exact Sk.drew (by assumption) | exact Sk.alloc (by assumption) _ | exact Sk.drew (Sk.alloc (by assumption) _) | exact Sk.alloc (Sk.drew (by assumption)) _) HLN.out ?_; intro v5 w5 t5; obtain ⟨a5, cap5, rfl⟩ := t5.sk.ow.slice; obtain ⟨s5, f5⟩ := blk_cell t5.sk.k 4 (x := .slice a2 k2 c2) rfl; try go_simp))
       all_goals
        have hl5 : (ws ++ [(⟨cc, cl⟩ : Wt)]).length = k2 + 1 := by rw [List.length_append, HLW.out]; rfl
        rw [hl5] at t5
        rw [HLW.out]
        have T5 : Hid (Sk w tq q2 (w5.setCell ⟨q, 4, none⟩ (.slice a5 (k2 + 1) cap5)) q z0 z1 (.slice a k c) (.slice sa 0 0) ms [] #[.string nm, .int .i64 t0, .int .i64 (t1 - 1), .int .i64 t2, .slice a5 (k2 + 1) cap5] (.slice a5 (k2 + 1) cap5) (ws ++ [⟨cc, cl⟩]) z2 b2) := t5.sk.set 4 _
        clear t5 t0' q0 q1 tn qn qd qa hl5 s5 f5
        go_wp2_with fail
        exact ⟨⟨k2 + 1, a5, cap5, by omega, by go_num, by rw [HNX.out.1, HNX.out.2.1, HNX.out.2.2, HWT.out.1, HWT.out.2.1, HWT.out.2.2]; exact T5⟩, by simp [intOf]; omega⟩
     ·obtain rfl : k2 = n2 := by omega
      have HEX : k2 = k2 ∨ itS wtR wtS k2 y1 s1 = true := .inl rfl
      have HG := HAG.out k2 hk2 HEX
      rw [HWS.out, HZS.out, HSB.out] at HG
      have HL2 : ws.length = k2 := by rw [← HWS.out]; exact itL_len _ _ _ _
      clear HWS HZS HSB HAG HRW
      obtain rfl := HL2
      have HGN : Hid (Agl n y0 s0 (k + 1) (ms.map (·.1) ++ [⟨nm, t0, t1 - 1, t2, ws⟩]) zs sb) := HGL.out.2.next hlt HG
      have HLN : Hid (ms.length ≤ 1000000) := by show _ ≤ _; rw [HGL.out.1]; omega
      have HRZ : Hid (∀ x ∈ zs, 0 ≤ x ∧ x ≤ 255) := HRK
      have K6 : Hid (Sk w tq q2 wr q z0 z1 (.slice a k c) (.slice sa 0 0) ms [] #[.string nm, .int .i64 t0, .int .i64 (t1 - 1), .int .i64 t2, .slice a2 ws.length c2] (uV (⟨nm, t0, t1 - 1, t2, ws⟩, a2, c2)) ws zs sb) := HK.out
      have cb0 := (blk_cell K6.out.k 0 (x := .string nm) rfl).1
      have cb1 := (blk_cell K6.out.k 1 (x := .int .i64 t0) rfl).1
      have cb2 := (blk_cell K6.out.k 2 (x := .int .i64 (t1 - 1)) rfl).1
      have cb3 := (blk_cell K6.out.k 3 (x := .int .i64 t2) rfl).1
      have cb4 := (blk_cell K6.out.k 4 (x := .slice a2 ws.length c2) rfl).1
      have ct2 := (blk_cell K6.out.sp.t 2 (x := .slice a k c) rfl).1
      have OL : OwnL wr (w.heap.size + 2) (.slice a k c) ms := K6.out.sp.me.ol
      have SZ : w.heap.size + 2 ≤ wr.heap.size := by have h1 := K6.out.sp.tl; have h2 := K6.out.sp.size; omega
      have HLM : Hid (ms.length = k) := HGL.out.1
      clear HK HG HRK HEX HGL
      go_wp2_with (at_builtin; go_must (refine list_lk (by rfl) _ _ 23 (by rfl) i0 Tryd.underlying23 hi0 hz0 hz1 hz2 (w.heap.size + 2) wr wr (.slice a k c) ms (⟨nm, t0, t1 - 1, t2, ws⟩, a2, c2) (by rfl) OL (Below.refl _ _) SZ _ (by rfl) (by rfl) HLN.out ?_; intro v5 w5 o5 b5 k5; obtain ⟨a5, cap5, rfl⟩ := o5.slice; obtain ⟨s5, f5, j5⟩ := K6.out.join o5 b5 k5))
      have hl5 : (ms ++ [((⟨nm, t0, t1 - 1, t2, ws⟩ : Lk), a2, c2)]).length = k + 1 := by rw [List.length_append, HLM.out]; rfl
      rw [hl5] at j5
      rw [HLM.out]
      have T6 : Hid (Sp w tq (w5.setCell ⟨tq, 2, none⟩ (.slice a5 (k + 1) cap5)) z0 z1 (.slice a5 (k + 1) cap5) (.slice sa 0 0) (ms ++ [(⟨nm, t0, t1 - 1, t2, ws⟩, a2, c2)]) [] zs sb) := j5
      exact ⟨⟨k + 1, a5, cap5, ms ++ [(⟨nm, t0, t1 - 1, t2, ws⟩, a2, c2)], zs, sb, by omega, by go_num, hl5, by rw [List.map_append]; exact HGN.out, T6.out, HRZ.out⟩, by simp [intOf]; omega⟩
  rotate_left
  focus
   obtain rfl : k = n := by omega
   have HFL : Hid (Fl k y0 s0 (ms.map (·.1)) ys sh) := ⟨HT.out.2.1.f, HT.out.2.1.t⟩
   have M0 := number_any 1 _ ys sh wr HT.out.2.2.1.rd (by decide) HT.out.2.2.2
   rw [cnt_eq HT.out.2.2.2] at M0
   have hc3 : cnt ys ≤ 255 := cnt_le HT.out.2.2.2
   have HRC : Hid (∀ x ∈ tkR 1 ys, 0 ≤ x ∧ x ≤ 255) := tkR_range HT.out.2.2.2
   have HLM : Hid (ms.length = k) := HT.out.1
   go_wp2_with fail
   refine M0.mono ?_
   rintro e w5 ⟨rfl, r, g⟩
   have T5 : Hid (Sp w tq w5 z0 z1 (.slice a k c) (.slice sa 0 0) ms [] (tkR 1 ys) (tkS 1 ys sh)) := HT.out.2.2.1.num r g
   obtain ⟨n3, HN3⟩ : ∃ n, Hid (cnt ys = n) := ⟨_, rfl⟩
   obtain ⟨y2, HY2⟩ : ∃ y, Hid (tkR 1 ys = y) := ⟨_, rfl⟩
   obtain ⟨s2, HS2⟩ : ∃ y, Hid (tkS 1 ys sh = y) := ⟨_, rfl⟩
   rw [HN3.out] at hc3
   rw [HN3.out]
   rw [HY2.out] at T5 HRC
   rw [HS2.out] at T5
   have HFO : Hid (∀ (ss : List Sn) (zs : List Int) (sb : Bool), (sb = false → ss = itL snR snO n3 y2 ∧ zs = itR snR n3 y2 ∧ itS snR snS n3 y2 s2 = false) ∧ (sb = true → itS snR snS n3 y2 s2 = true) → (sb = false → tbS xs false = false ∧ tbR xs = zs ∧ tbO xs = ⟨z0, z1, ms.map (·.1), ss⟩) ∧ (sb = true → tbS xs false = true)) := fun ss zs sb h => by
    rw [← HN3.out, ← HY2.out, ← HS2.out] at h
    rw [← HZ0.out, ← HZ1.out]
    have hf := HFL.out
    rw [← HNN.out, ← HY0.out, ← HS0.out] at hf
    exact fin_ok hf h
   clear HT M0 r g HFL HN3 HY2 HS2
   try clear hbad
  all_goals
   go_wp2_with fail
   go_loopw [11] (fun i wr => ∃ (k3 : Nat) (a3 : Option Addr) (c3 : Nat) (ss : List Sn) (zs : List Int) (sb : Bool), k3 ≤ n3 ∧ i = .int .i64 ((n3 : Int) - (k3 : Int)) ∧ Hid (ss.length = k3 ∧ Ags n3 y2 s2 k3 ss zs sb ∧ Sp w tq wr z0 z1 (.slice a k c) (.slice a3 k3 c3) ms ss zs sb ∧ ∀ x ∈ zs, 0 ≤ x ∧ x ≤ 255)) (fun i _ => (intOf i).toNat)
   case atStart => exact ⟨0, sa, 0, [], y2, s2, by omega, by simp, rfl, Ags.zero _ _ _, T5.out, HRC.out⟩
   case round =>
    clear T5 HRC
    obtain ⟨k3, a3, c3, ss, zs, sb, hk3, rfl, HT⟩ := hrel
    have hbad := HT.out.2.2.1.bad
    by_cases hlt3 : k3 < n3
    focus
     rcases Bool.eq_false_or_eq_true sb with hsb | hsb
     focus
      subst hsb
      have HFZ := (HFO.out ss zs true ⟨(fun h => by cases h), HT.out.2.1.t⟩).2 rfl
     rotate_left
     ·subst hsb
      have HLS : Hid (ss.length = k3) := HT.out.1
      have HLN : Hid (ss.length + 1 ≤ 1000000) := by show _ ≤ _; rw [HLS.out]; omega
      have HNX : Hid (Ags n3 y2 s2 (k3 + 1) (ss ++ [snO zs]) (snR zs) (snS zs false)) := HT.out.2.1.next hlt3
      have P0 := HT.out.2.2.1
      have HRT0 : Hid (∀ x ∈ zs, 0 ≤ x ∧ x ≤ 255) := HT.out.2.2.2
      have M0 := number_any 1 _ zs false wr P0.rd (by decide) HRT0.out
      have HRT1 : Hid (∀ x ∈ tkR 1 zs, 0 ≤ x ∧ x ≤ 255) := tkR_range HRT0.out
      obtain ⟨t0, HT0⟩ : ∃ y, Hid (nv 1 zs = y) := ⟨_, rfl⟩
      rw [HT0.out] at M0
      clear HFO
      go_wp2_with fail
      refine M0.mono ?_
      rintro e q2 ⟨rfl, r, g⟩
      have K1 : Hid (Sq w tq q2 (q2.alloc (.cells #[.int .i64 t0, .int .i64 0, .int .i64 0, .int .i64 0, .int .i64 0, .int .i64 0] 57)) q2.heap.size z0 z1 (.slice a k c) (.slice a3 k3 c3) ms ss #[.int .i64 t0, .int .i64 0, .int .i64 0, .int .i64 0, .int .i64 0, .int .i64 0] (tkR 1 zs) (tkS 1 zs false)) := Sq.start (P0.num r g) _
      clear P0 M0 r g HRT0 HT hbad
      go_wp2_with fail
      generalize q2.alloc (.cells #[.int .i64 t0, .int .i64 0, .int .i64 0, .int .i64 0, .int .i64 0, .int .i64 0] 57) = u0' at K1 ⊢
      generalize q2.heap.size = q at K1 ⊢
      have M1 := number_any 2 _ (tkR 1 zs) (tkS 1 zs false) _ K1.out.sp.rd (by decide) HRT1.out
      have nb1 := nv_range (n := 2) HRT1.out
      simp only [show ((256 : Int) ^ 2) = 65536 from rfl] at nb1
      have HRT2 : Hid (∀ x ∈ tkR 2 (tkR 1 zs), 0 ≤ x ∧ x ≤ 255) := tkR_range HRT1.out
      obtain ⟨t1, HT1⟩ : ∃ y, Hid (nv 2 (tkR 1 zs) = y) := ⟨_, rfl⟩
      rw [HT1.out] at M1 nb1
      refine M1.mono ?_
      rintro e u1 ⟨rfl, r, g⟩
      have l := K1.out.num r g
      obtain ⟨c0, f0⟩ := blk_cell l.k 1 (x := .int .i64 0) rfl
      have K2 : Hid (Sq w tq q2 (u1.setCell ⟨q, 1, none⟩ (.int .i64 t1)) q z0 z1 (.slice a k c) (.slice a3 k3 c3) ms ss #[.int .i64 t0, .int .i64 t1, .int .i64 0, .int .i64 0, .int .i64 0, .int .i64 0] (tkR 2 (tkR 1 zs)) (tkS 2 (tkR 1 zs) (tkS 1 zs false))) := l.set 1 _
      clear l r g K1 M1 HRT1
      go_wp2_with fail
      clear c0 f0 nb1
      generalize u1.setCell ⟨q, 1, none⟩ (.int .i64 t1) = u1' at K2 ⊢
      have M2 := number_any 1 _ (tkR 2 (tkR 1 zs)) (tkS 2 (tkR 1 zs) (tkS 1 zs false)) _ K2.out.sp.rd (by decide) HRT2.out
      have nb2 := nv_range (n := 1) HRT2.out
      simp only [show ((256 : Int) ^ 1) = 256 from rfl] at nb2
      have HRT3 : Hid (∀ x ∈ tkR 1 (tkR 2 (tkR 1 zs)), 0 ≤ x ∧ x ≤ 255) := tkR_range HRT2.out
      obtain ⟨t2, HT2⟩ : ∃ y, Hid (nv 1 (tkR 2 (tkR 1 zs)) = y) := ⟨_, rfl⟩
      rw [HT2.out] at M2 nb2
      refine M2.mono ?_
      rintro e u2 ⟨rfl, r, g⟩
      have l := K2.out.num r g
      obtain ⟨c0, f0⟩ := blk_cell l.k 2 (x := .int .i64 0) rfl
      have K3 : Hid (Sq w tq q2 (u2.setCell ⟨q, 2, none⟩ (.int .i64 t2)) q z0 z1 (.slice a k c) (.slice a3 k3 c3) ms ss #[.int .i64 t0, .int .i64 t1, .int .i64 t2, .int .i64 0, .int .i64 0, .int .i64 0] (tkR 1 (tkR 2 (tkR 1 zs))) (tkS 1 (tkR 2 (tkR 1 zs)) (tkS 2 (tkR 1 zs) (tkS 1 zs false)))) := l.set 2 _
      clear l r g K2 M2 HRT2
      go_wp2_with fail
      clear c0 f0 nb2
      generalize u2.setCell ⟨q, 2, none⟩ (.int .i64 t2) = u2' at K3 ⊢
      have M3 := number_any 3 _ (tkR 1 (tkR 2 (tkR 1 zs))) (tkS 1 (tkR 2 (tkR 1 zs)) (tkS 2 (tkR 1 zs) (tkS 1 zs false))) _ K3.out.sp.rd (by decide) HRT3.out
      have nb3 := nv_range (n := 3) HRT3.out
      simp only [show ((256 : Int) ^ 3) = 16777216 from rfl] at nb3
      have HRT4 : Hid (∀ x ∈ tkR 3 (tkR 1 (tkR 2 (tkR 1 zs))), 0 ≤ x ∧ x ≤ 255) := tkR_range HRT3.out
      obtain ⟨t3, HT3⟩ : ∃ y, Hid (nv 3 (tkR 1 (tkR 2 (tkR 1 zs))) = y) := ⟨_, rfl⟩
      rw [HT3.out] at M3 nb3
      refine M3.mono ?_
      rintro e u3 ⟨rfl, r, g⟩
      have l := K3.out.num r g
      obtain ⟨c0, f0⟩ := blk_cell l.k 3 (x := .int .i64 0) rfl
      have K4 : Hid (Sq w tq q2 (u3.setCell ⟨q, 3, none⟩ (.int .i64 t3)) q z0 z1 (.slice a k c) (.slice a3 k3 c3) ms ss #[.int .i64 t0, .int .i64 t1, .int .i64 t2, .int .i64 t3, .int .i64 0, .int .i64 0] (tkR 3 (tkR 1 (tkR 2 (tkR 1 zs)))) (tkS 3 (tkR 1 (tkR 2 (tkR 1 zs))) (tkS 1 (tkR 2 (tkR 1 zs)) (tkS 2 (tkR 1 zs) (tkS 1 zs false))))) := l.set 3 _
      clear l r g K3 M3 HRT3
      go_wp2_with fail
      clear c0 f0 nb3
      generalize u3.setCell ⟨q, 3, none⟩ (.int .i64 t3) = u3' at K4 ⊢
      have M4 := number_any 2 _ (tkR 3 (tkR 1 (tkR 2 (tkR 1 zs)))) (tkS 3 (tkR 1 (tkR 2 (tkR 1 zs))) (tkS 1 (tkR 2 (tkR 1 zs)) (tkS 2 (tkR 1 zs) (tkS 1 zs false)))) _ K4.out.sp.rd (by decide) HRT4.out
      have nb4 := nv_range (n := 2) HRT4.out
      simp only [show ((256 : Int) ^ 2) = 65536 from rfl] at nb4
      have HRT5 : Hid (∀ x ∈ tkR 2 (tkR 3 (tkR 1 (tkR 2 (tkR 1 zs)))), 0 ≤ x ∧ x ≤ 255) := tkR_range HRT4.out
      obtain ⟨t4, HT4⟩ : ∃ y, Hid (nv 2 (tkR 3 (tkR 1 (tkR 2 (tkR 1 zs)))) = y) := ⟨_, rfl⟩
      rw [HT4.out] at M4 nb4
      refine M4.mono ?_
      rintro e u4 ⟨rfl, r, g⟩
      have l := K4.out.num r g
      obtain ⟨c0, f0⟩ := blk_cell l.k 4 (x := .int .i64 0) rfl
      have K5 : Hid (Sq w tq q2 (u4.setCell ⟨q, 4, none⟩ (.int .i64 (t4 - 1))) q z0 z1 (.slice a k c) (.slice a3 k3 c3) ms ss #[.int .i64 t0, .int .i64 t1, .int .i64 t2, .int .i64 t3, .int .i64 (t4 - 1), .int .i64 0] (tkR 2 (tkR 3 (tkR 1 (tkR 2 (tkR 1 zs))))) (tkS 2 (tkR 3 (tkR 1 (tkR 2 (tkR 1 zs)))) (tkS 3 (tkR 1 (tkR 2 (tkR 1 zs))) (tkS 1 (tkR 2 (tkR 1 zs)) (tkS 2 (tkR 1 zs) (tkS 1 zs false)))))) := l.set 4 _
      clear l r g K4 M4 HRT4
      go_wp2_with fail
      clear c0 f0 nb4
      generalize u4.setCell ⟨q, 4, none⟩ (.int .i64 (t4 - 1)) = u4' at K5 ⊢
      have M5 := number_any 4 _ (tkR 2 (tkR 3 (tkR 1 (tkR 2 (tkR 1 zs))))) (tkS 2 (tkR 3 (tkR 1 (tkR 2 (tkR 1 zs)))) (tkS 3 (tkR 1 (tkR 2 (tkR 1 zs))) (tkS 1 (tkR 2 (tkR 1 zs)) (tkS 2 (tkR 1 zs) (tkS 1 zs false))))) _ K5.out.sp.rd (by decide) HRT5.out
      have HRT6 : Hid (∀ x ∈ tkR 4 (tkR 2 (tkR 3 (tkR 1 (tkR 2 (tkR 1 zs))))), 0 ≤ x ∧ x ≤ 255) := tkR_range HRT5.out
      obtain ⟨t5, HT5⟩ : ∃ y, Hid (nv 4 (tkR 2 (tkR 3 (tkR 1 (tkR 2 (tkR 1 zs))))) = y) := ⟨_, rfl⟩
      rw [HT5.out] at M5
      refine M5.mono ?_
      rintro e u5 ⟨rfl, r, g⟩
      have l := K5.out.num r g
      obtain ⟨c0, f0⟩ := blk_cell l.k 5 (x := .int .i64 0) rfl
      have K6 : Hid (Sq w tq q2 (u5.setCell ⟨q, 5, none⟩ (.int .i64 t5)) q z0 z1 (.slice a k c) (.slice a3 k3 c3) ms ss #[.int .i64 t0, .int .i64 t1, .int .i64 t2, .int .i64 t3, .int .i64 (t4 - 1), .int .i64 t5] (tkR 4 (tkR 2 (tkR 3 (tkR 1 (tkR 2 (tkR 1 zs)))))) (tkS 4 (tkR 2 (tkR 3 (tkR 1 (tkR 2 (tkR 1 zs))))) (tkS 2 (tkR 3 (tkR 1 (tkR 2 (tkR 1 zs)))) (tkS 3 (tkR 1 (tkR 2 (tkR 1 zs))) (tkS 1 (tkR 2 (tkR 1 zs)) (tkS 2 (tkR 1 zs) (tkS 1 zs false))))))) := l.set 5 _
      clear l r g K5 M5 HRT5
      go_upto_region 27 with fail
      clear c0 f0
      generalize u5.setCell ⟨q, 5, none⟩ (.int .i64 t5) = u5' at K6 ⊢
      have HES : Hid (snO zs = ⟨t0, t1, t2, t3, t4 - 1, t5⟩ ∧ snR zs = tkR 4 (tkR 2 (tkR 3 (tkR 1 (tkR 2 (tkR 1 zs))))) ∧ snS zs false = tkS 4 (tkR 2 (tkR 3 (tkR 1 (tkR 2 (tkR 1 zs))))) (tkS 2 (tkR 3 (tkR 1 (tkR 2 (tkR 1 zs)))) (tkS 3 (tkR 1 (tkR 2 (tkR 1 zs))) (tkS 1 (tkR 2 (tkR 1 zs)) (tkS 2 (tkR 1 zs) (tkS 1 zs false)))))) := ⟨by rw [← HT0.out, ← HT1.out, ← HT2.out, ← HT3.out, ← HT4.out, ← HT5.out]; rfl, rfl, rfl⟩
      rw [← HES.out.2.1, ← HES.out.2.2] at K6
      rw [← HES.out.2.1] at HRT6
      rw [HES.out.1] at HNX
      obtain ⟨z6, HZ6⟩ : ∃ y, Hid (snR zs = y) := ⟨_, rfl⟩
      obtain ⟨b6, HB6⟩ : ∃ y, Hid (snS zs false = y) := ⟨_, rfl⟩
      rw [HZ6.out] at HNX K6 HRT6
      rw [HB6.out] at HNX K6
      have cb0 := (blk_cell K6.out.k 0 (x := .int .i64 t0) rfl).1
      have cb1 := (blk_cell K6.out.k 1 (x := .int .i64 t1) rfl).1
      have cb2 := (blk_cell K6.out.k 2 (x := .int .i64 t2) rfl).1
      have cb3 := (blk_cell K6.out.k 3 (x := .int .i64 t3) rfl).1
      have cb4 := (blk_cell K6.out.k 4 (x := .int .i64 (t4 - 1)) rfl).1
      have cb5 := (blk_cell K6.out.k 5 (x := .int .i64 t5) rfl).1
      have ct3 := (blk_cell K6.out.sp.t 3 (x := .slice a3 k3 c3) rfl).1
      have P6 : Hid (Sp w tq (u5'.alloc (.cells #[.int .i64 t0, .int .i64 t1, .int .i64 t2, .int .i64 t3, .int .i64 (t4 - 1), .int .i64 t5] 57)) z0 z1 (.slice a k c) (.slice a3 k3 c3) ms ss z6 b6) := K6.out.sp.up ((Below.refl _ _).alloc (Nat.le_refl _) _)
      have OS : OwnS (u5'.alloc (.cells #[.int .i64 t0, .int .i64 t1, .int .i64 t2, .int .i64 t3, .int .i64 (t4 - 1), .int .i64 t5] 57)) (w.heap.size + 2) (.slice a3 k3 c3) ss := P6.out.me.os
      have KR : Hid (RowS (u5'.alloc (.cells #[.int .i64 t0, .int .i64 t1, .int .i64 t2, .int .i64 t3, .int .i64 (t4 - 1), .int .i64 t5] 57)) (.slice (some ⟨u5'.heap.size, 0, none⟩) 1 1) [⟨t0, t1, t2, t3, t4 - 1, t5⟩]) := row_oneS u5' ⟨t0, t1, t2, t3, t4 - 1, t5⟩
      have SZ : w.heap.size + 2 ≤ (u5'.alloc (.cells #[.int .i64 t0, .int .i64 t1, .int .i64 t2, .int .i64 t3, .int .i64 (t4 - 1), .int .i64 t5] 57)).heap.size := by have h1 := P6.out.tl; have h2 := P6.out.size; omega
      clear K6 HES HT0 HT1 HT2 HT3 HT4 HT5 HZ6 HB6
      go_wp2_with (at_builtin; go_must (refine appS (by rfl) _ _ 24 (by rfl) j0 Tryd.underlying24 hj0 hy0 hy1 hy2 (w.heap.size + 2) (u5'.alloc (.cells #[.int .i64 t0, .int .i64 t1, .int .i64 t2, .int .i64 t3, .int .i64 (t4 - 1), .int .i64 t5] 57)) (u5'.alloc (.cells #[.int .i64 t0, .int .i64 t1, .int .i64 t2, .int .i64 t3, .int .i64 (t4 - 1), .int .i64 t5] 57)) _ _ ss [⟨t0, t1, t2, t3, t4 - 1, t5⟩] (by rfl) OS (Below.refl _ _) SZ (by rfl) KR.out (by have := HLN.out; simpa using this) ?_; intro v5 w6 o5 b5 k5; obtain ⟨a5, cap5, rfl⟩ := o5.slice; obtain ⟨s5, f5, j5⟩ := P6.out.joinS o5 b5 k5))
      have hl5 : (ss ++ [(⟨t0, t1, t2, t3, t4 - 1, t5⟩ : Sn)]).length = k3 + 1 := by rw [List.length_append, HLS.out]; rfl
      rw [hl5] at j5
      rw [HLS.out]
      have T6 : Hid (Sp w tq (w6.setCell ⟨tq, 3, none⟩ (.slice a5 (k3 + 1) cap5)) z0 z1 (.slice a k c) (.slice a5 (k3 + 1) cap5) ms (ss ++ [⟨t0, t1, t2, t3, t4 - 1, t5⟩]) z6 b6) := j5
      exact ⟨⟨k3 + 1, a5, cap5, ss ++ [⟨t0, t1, t2, t3, t4 - 1, t5⟩], z6, b6, by omega, by go_num, hl5, HNX.out, T6.out, HRT6.out⟩, by simp [intOf]; omega⟩
    rotate_left
    focus
     obtain rfl : k3 = n3 := by omega
     have HFZ0 := HFO.out ss zs sb ⟨HT.out.2.1.f, HT.out.2.1.t⟩
     rcases Bool.eq_false_or_eq_true sb with hsb | hsb
     focus
      subst hsb
      have HFZ := HFZ0.2 rfl
      clear HFZ0
     rotate_left
     ·subst hsb
      obtain ⟨g1, g2, g3⟩ := HFZ0.1 rfl
      clear HFZ0
      rcases zs with _ | ⟨y, zs⟩
      rotate_left
      ·have HOK : Hid (rtOK xs = false) := by show _ = _; unfold rtOK; rw [g2]; simp
       have HP := HT.out.2.2.1
       obtain ⟨s', p, hs1, _, _⟩ := HP.rd
       have J : Hid (Rs w tq s' wr z0 z1 (.slice a k c) (.slice a3 k3 c3) ms ss (y :: zs) false) := ⟨HP, p⟩
       have HS : Hid (∀ W, Rs w tq s' W z0 z1 (.slice a k c) (.slice a3 k3 c3) ms ss (y :: zs) false → W.cell? ⟨w.heap.size + 1, 0, none⟩ = some (.string s') ∧ W.cell? ⟨w.heap.size + 1, 1, none⟩ = some (.bool false) ∧ W.cell? ⟨tq, 0, none⟩ = some (.int .i64 z0) ∧ W.cell? ⟨tq, 1, none⟩ = some (.int .i64 z1) ∧ W.cell? ⟨tq, 2, none⟩ = some (.slice a k c) ∧ W.cell? ⟨tq, 3, none⟩ = some (.slice a3 k3 c3)) := fun W h => h.cells
       have HSN : Hid (∀ W, Rs w tq s' W z0 z1 (.slice a k c) (.slice a3 k3 c3) ms ss (y :: zs) false → ((((W.setCell ⟨w.heap.size, 0, none⟩ (.int .i64 z0)).setCell ⟨w.heap.size, 1, none⟩ (.int .i64 z1)).setCell ⟨w.heap.size, 2, none⟩ (.slice a k c)).setCell ⟨w.heap.size, 3, none⟩ (.slice a3 k3 c3)).cell? ⟨w.heap.size + 1, 0, none⟩ = some (.string s') ∧ ((((W.setCell ⟨w.heap.size, 0, none⟩ (.int .i64 z0)).setCell ⟨w.heap.size, 1, none⟩ (.int .i64 z1)).setCell ⟨w.heap.size, 2, none⟩ (.slice a k c)).setCell ⟨w.heap.size, 3, none⟩ (.slice a3 k3 c3)).cell? ⟨w.heap.size + 1, 1, none⟩ = some (.bool false) ∧ ((((W.setCell ⟨w.heap.size, 0, none⟩ (.int .i64 z0)).setCell ⟨w.heap.size, 1, none⟩ (.int .i64 z1)).setCell ⟨w.heap.size, 2, none⟩ (.slice a k c)).setCell ⟨w.heap.size, 3, none⟩ (.slice a3 k3 c3)).cell? ⟨tq, 0, none⟩ = some (.int .i64 z0) ∧ ((((W.setCell ⟨w.heap.size, 0, none⟩ (.int .i64 z0)).setCell ⟨w.heap.size, 1, none⟩ (.int .i64 z1)).setCell ⟨w.heap.size, 2, none⟩ (.slice a k c)).setCell ⟨w.heap.size, 3, none⟩ (.slice a3 k3 c3)).cell? ⟨tq, 1, none⟩ = some (.int .i64 z1) ∧ ((((W.setCell ⟨w.heap.size, 0, none⟩ (.int .i64 z0)).setCell ⟨w.heap.size, 1, none⟩ (.int .i64 z1)).setCell ⟨w.heap.size, 2, none⟩ (.slice a k c)).setCell ⟨w.heap.size, 3, none⟩ (.slice a3 k3 c3)).cell? ⟨tq, 2, none⟩ = some (.slice a k c) ∧ ((((W.setCell ⟨w.heap.size, 0, none⟩ (.int .i64 z0)).setCell ⟨w.heap.size, 1, none⟩ (.int .i64 z1)).setCell ⟨w.heap.size, 2, none⟩ (.slice a k c)).setCell ⟨w.heap.size, 3, none⟩ (.slice a3 k3 c3)).cell? ⟨tq, 3, none⟩ = some (.slice a3 k3 c3)) := fun W h => h.cellsN _ _ _ _
       obtain ⟨zc0, zf0⟩ := blk_cell HP.a 0 (x := .int .i64 0) rfl
       obtain ⟨zc1, zf1⟩ := blk_cell HP.a 1 (x := .int .i64 0) rfl
       obtain ⟨zc2, zf2⟩ := blk_cell HP.a 2 (x := .slice none 0 0) rfl
       obtain ⟨zc3, zf3⟩ := blk_cell HP.a 3 (x := .slice none 0 0) rfl
       have hne : ¬ s'.toList = [] := by rw [Lib.toList_data]; intro e; have h := hs1 rfl; unfold bys at h; rw [e] at h; cases h
       clear g1 g2 g3 HP HT HFO p hbad hs1 hi0 hz0 hz1 hz2 hj0 hy0 hy1 hy2 hk0 hx0 hx1 hx2
       go_upto_region 28 with fail
       refine wp_region_noPanic ?_
       refine wp_region_held_drew (S := fun W => W.cell? ⟨w.heap.size + 1, 0, none⟩ = some (.string s') ∧ W.cell? ⟨w.heap.size + 1, 1, none⟩ = some (.bool false) ∧ W.cell? ⟨tq, 0, none⟩ = some (.int .i64 z0) ∧ W.cell? ⟨tq, 1, none⟩ = some (.int .i64 z1) ∧ W.cell? ⟨tq, 2, none⟩ = some (.slice a k c) ∧ W.cell? ⟨tq, 3, none⟩ = some (.slice a3 k3 c3)) (by kernel_rfl) (HS.out _ J.out.drew) (fun hHeld => ?_)
       refine wpAnyH_take (i := 0) (oi := ⟨some 126, .load 26 (.tmp 5), 26, "l05_locks.go:331", #[], none⟩) (v := ?_) rfl (by kernel_rfl) (by kernel_rfl) (by kernel_rfl) (fun _ _ _ h => h) (Or.inl ⟨by rfl, ?_⟩) hHeld ?_
       rotate_left
       ·intro wz hz; (try dsimp only at hz); go_simp; try (with_reducible rfl)
       simp only [Act.put, List.setIfInBounds_toArray, List.set_cons_zero, List.set_cons_succ]
       refine wpAnyH_take (i := 1) (oi := ⟨some 127, .move (.tmp 4), 108, "l05_locks.go:331", #[], none⟩) (v := ?_) rfl (by kernel_rfl) (by kernel_rfl) (by kernel_rfl) (fun _ _ _ h => h) (Or.inl ⟨by rfl, ?_⟩) hHeld ?_
       rotate_left
       ·intro wz hz; (try dsimp only at hz); go_simp; try (with_reducible rfl)
       simp only [Act.put, List.setIfInBounds_toArray, List.set_cons_zero, List.set_cons_succ]
       refine wpAnyH_take (i := 2) (oi := ⟨some 128, .nilCheck (.tmp 127), 0, "l05_locks.go:331", #[⟨1, .data⟩], none⟩) (v := ?_) rfl (by kernel_rfl) (by kernel_rfl) (by kernel_rfl) (fun _ _ _ h => h) (Or.inl ⟨by rfl, ?_⟩) hHeld ?_
       rotate_left
       ·intro wz hz; (try dsimp only at hz); go_simp; try (with_reducible rfl)
       simp only [Act.put, List.setIfInBounds_toArray, List.set_cons_zero, List.set_cons_succ]
       refine wpAnyH_take (i := 3) (oi := ⟨some 129, .fieldAddr 110 (.tmp 128) 1, 0, "l05_locks.go:331", #[⟨2, .data⟩], none⟩) (v := ?_) rfl (by kernel_rfl) (by kernel_rfl) (by kernel_rfl) (fun _ _ _ h => h) (Or.inl ⟨by rfl, ?_⟩) hHeld ?_
       rotate_left
       ·intro wz hz; (try dsimp only at hz); go_simp; try (with_reducible rfl)
       simp only [Act.put, List.setIfInBounds_toArray, List.set_cons_zero, List.set_cons_succ]
       refine wpAnyH_take (i := 4) (oi := ⟨some 130, .load 4 (.tmp 129), 4, "l05_locks.go:331", #[⟨3, .data⟩], none⟩) (v := ?_) rfl (by kernel_rfl) (by kernel_rfl) (by kernel_rfl) (fun _ _ _ h => h) (Or.inl ⟨by rfl, ?_⟩) hHeld ?_
       rotate_left
       ·intro wz hz; (try dsimp only at hz); go_simp; try (with_reducible rfl)
       simp only [Act.put, List.setIfInBounds_toArray, List.set_cons_zero, List.set_cons_succ]
       refine wpAnyH_take (i := 5) (oi := ⟨some 131, .unOp UnOp.not 4 (.tmp 130), 4, "l05_locks.go:331", #[⟨4, .data⟩], none⟩) (v := ?_) rfl (by kernel_rfl) (by kernel_rfl) (by kernel_rfl) (fun _ _ _ h => h) (Or.inl ⟨by rfl, ?_⟩) hHeld ?_
       rotate_left
       ·intro wz hz; (try dsimp only at hz); go_simp; try (with_reducible rfl)
       simp only [Act.put, List.setIfInBounds_toArray, List.set_cons_zero, List.set_cons_succ]
       refine wpAnyH_take (i := 6) (oi := ⟨some 132, .move (.tmp 131), 4, "l05_locks.go:331", #[⟨5, .data⟩], none⟩) (v := ?_) rfl (by kernel_rfl) (by kernel_rfl) (by kernel_rfl) (fun _ _ _ h => h) (Or.inl ⟨by rfl, ?_⟩) hHeld ?_
       rotate_left
       ·intro wz hz; (try dsimp only at hz); go_simp; try (with_reducible rfl)
       simp only [Act.put, List.setIfInBounds_toArray, List.set_cons_zero, List.set_cons_succ]
       refine wpAnyH_take (i := 7) (oi := ⟨some 133, .move (.tmp 4), 108, "l05_locks.go:331", #[⟨6, .guard⟩], some (6, true)⟩) (v := ?_) rfl (by kernel_rfl) (by kernel_rfl) (by kernel_rfl) (fun _ _ _ h => h) (Or.inl ⟨by rfl, ?_⟩) hHeld ?_
       rotate_left
       ·intro wz hz; (try dsimp only at hz); go_simp; try (with_reducible rfl)
       simp only [Act.put, List.setIfInBounds_toArray, List.set_cons_zero, List.set_cons_succ]
       refine wpAnyH_take (i := 8) (oi := ⟨some 134, .nilCheck (.tmp 133), 0, "l05_locks.go:331", #[⟨7, .data⟩, ⟨6, .guard⟩], some (6, true)⟩) (v := ?_) rfl (by kernel_rfl) (by kernel_rfl) (by kernel_rfl) (fun _ _ _ h => h) (Or.inl ⟨by rfl, ?_⟩) hHeld ?_
       rotate_left
       ·intro wz hz; (try dsimp only at hz); go_simp; try (with_reducible rfl)
       simp only [Act.put, List.setIfInBounds_toArray, List.set_cons_zero, List.set_cons_succ]
       refine wpAnyH_take (i := 9) (oi := ⟨some 135, .fieldAddr 110 (.tmp 134) 0, 0, "l05_locks.go:331", #[⟨8, .data⟩, ⟨6, .guard⟩], some (6, true)⟩) (v := ?_) rfl (by kernel_rfl) (by kernel_rfl) (by kernel_rfl) (fun _ _ _ h => h) (Or.inl ⟨by rfl, ?_⟩) hHeld ?_
       rotate_left
       ·intro wz hz; (try dsimp only at hz); go_simp; try (with_reducible rfl)
       simp only [Act.put, List.setIfInBounds_toArray, List.set_cons_zero, List.set_cons_succ]
       refine wpAnyH_take (i := 10) (oi := ⟨some 136, .load 9 (.tmp 135), 9, "l05_locks.go:331", #[⟨9, .data⟩, ⟨6, .guard⟩], some (6, true)⟩) (v := ?_) rfl (by kernel_rfl) (by kernel_rfl) (by kernel_rfl) (fun _ _ _ h => h) (Or.inl ⟨by rfl, ?_⟩) hHeld ?_
       rotate_left
       ·intro wz hz; (try dsimp only at hz); go_simp; try (with_reducible rfl)
       simp only [Act.put, List.setIfInBounds_toArray, List.set_cons_zero, List.set_cons_succ]
       refine wpAnyH_take (i := 11) (oi := ⟨some 137, .binOp BinOp.eql 9 (.tmp 136) (Operand.const (Value.string { data := #[] })) 9, 4, "l05_locks.go:331", #[⟨10, .data⟩, ⟨6, .guard⟩], some (6, true)⟩) (v := .bool false) rfl (by kernel_rfl) (by kernel_rfl) (by kernel_rfl) (fun _ _ _ h => h) (Or.inl ⟨by rfl, ?_⟩) hHeld ?_
       ·intro wz hz; (try dsimp only at hz); go_simp; try exact hne
       simp only [Act.put, List.setIfInBounds_toArray, List.set_cons_zero, List.set_cons_succ]
       refine wpAnyH_take (i := 12) (oi := ⟨some 138, .pick (.tmp 132) (.tmp 137) (Operand.const (Value.bool false)), 4, "l05_locks.go:331", #[⟨6, .data⟩, ⟨11, .data⟩], none⟩) (v := ?_) rfl (by kernel_rfl) (by kernel_rfl) (by kernel_rfl) (fun _ _ _ h => h) (Or.inl ⟨by rfl, ?_⟩) hHeld ?_
       rotate_left
       ·intro wz hz; (try dsimp only at hz); go_simp; try (with_reducible rfl)
       simp only [Act.put, List.setIfInBounds_toArray, List.set_cons_zero, List.set_cons_succ]
       refine wpAnyH_take (i := 13) (oi := ⟨some 139, .move (.tmp 138), 4, "l05_locks.go:331", #[⟨12, .data⟩, ⟨6, .chain⟩], none⟩) (v := ?_) rfl (by kernel_rfl) (by kernel_rfl) (by kernel_rfl) (fun _ _ _ h => h) (Or.inl ⟨by rfl, ?_⟩) hHeld ?_
       rotate_left
       ·intro wz hz; (try dsimp only at hz); go_simp; try (with_reducible rfl)
       simp only [Act.put, List.setIfInBounds_toArray, List.set_cons_zero, List.set_cons_succ]
       refine wpAnyH_take (i := 14) (oi := ⟨some 140, .load 26 (.tmp 5), 26, "l05_locks.go:331", #[⟨13, .guard⟩], some (13, true)⟩) (v := undef) rfl (by kernel_rfl) (by kernel_rfl) (by kernel_rfl) (fun _ _ _ h => h) (Or.inr ⟨by rfl, rfl⟩) hHeld ?_
       simp only [Act.put, List.setIfInBounds_toArray, List.set_cons_zero, List.set_cons_succ]
       refine wpAnyH_take (i := 15) (oi := ⟨some 141, .call { callee := Callee.value (Operand.func 29), args := #[Operand.tmp 140], argTypes := #[26] }, 4, "l05_locks.go:331", #[⟨14, .data⟩, ⟨13, .chain⟩, ⟨13, .guard⟩], some (13, true)⟩) (v := undef) rfl (by kernel_rfl) (by kernel_rfl) (by kernel_rfl) (fun _ _ _ h => h) (Or.inr ⟨by rfl, rfl⟩) hHeld ?_
       simp only [Act.put, List.setIfInBounds_toArray, List.set_cons_zero, List.set_cons_succ]
       refine wpAnyH_take (i := 16) (oi := ⟨some 142, .pick (.tmp 139) (.tmp 141) (Operand.const (Value.bool false)), 4, "l05_locks.go:331", #[⟨13, .data⟩, ⟨15, .data⟩, ⟨17, .gcOnly .lateStores⟩], none⟩) (v := ?_) rfl (by kernel_rfl) (by kernel_rfl) (by kernel_rfl) (fun _ _ _ h => h) (Or.inl ⟨by rfl, ?_⟩) hHeld ?_
       rotate_left
       ·intro wz hz; (try dsimp only at hz); go_simp; try (with_reducible rfl)
       simp only [Act.put, List.setIfInBounds_toArray, List.set_cons_zero, List.set_cons_succ]
       refine wpAnyH_ready (rs := [17]) (by kernel_rfl) (by simp) ?_
       refine AllReadyH.cons (o := ⟨none, .store 26 (.tmp 2) (.tmp 126), 0, "l05_locks.go:331", #[⟨0, .data⟩, ⟨15, .chain⟩, ⟨0, .phase⟩, ⟨1, .textOnly .lateStores⟩, ⟨2, .textOnly .lateStores⟩, ⟨3, .textOnly .lateStores⟩, ⟨4, .textOnly .lateStores⟩, ⟨5, .textOnly .lateStores⟩, ⟨6, .textOnly .lateStores⟩, ⟨7, .textOnly .lateStores⟩, ⟨8, .textOnly .lateStores⟩, ⟨9, .textOnly .lateStores⟩, ⟨10, .textOnly .lateStores⟩, ⟨11, .textOnly .lateStores⟩, ⟨12, .textOnly .lateStores⟩, ⟨13, .textOnly .lateStores⟩, ⟨14, .textOnly .lateStores⟩, ⟨15, .textOnly .lateStoresUnsure⟩, ⟨16, .textOnly .lateStores⟩], none⟩) rfl (fun K hK => ?_) AllReadyH.nil
       go_simp
       refine hK.out _ _ ?_ (fun hHeld => ?_)
       ·first | exact HSN.out _ J.out | exact HSN.out _ J.out.drew
       clear hK K
       refine wpAnyH_take (i := 18) (oi := ⟨some 3, .assign (.tmp 142), 4, "l05_locks.go:331", #[⟨16, .data⟩, ⟨17, .chain⟩, ⟨0, .phase⟩, ⟨1, .phase⟩, ⟨2, .phase⟩, ⟨3, .phase⟩, ⟨4, .phase⟩, ⟨5, .phase⟩, ⟨6, .phase⟩, ⟨7, .phase⟩, ⟨8, .phase⟩, ⟨9, .phase⟩, ⟨10, .phase⟩, ⟨11, .phase⟩, ⟨12, .phase⟩, ⟨13, .phase⟩, ⟨14, .phase⟩, ⟨15, .phase⟩, ⟨16, .phase⟩, ⟨17, .phase⟩], none⟩) (v := ?_) rfl (by kernel_rfl) (by kernel_rfl) (by kernel_rfl) (fun _ _ _ h => h) (Or.inl ⟨by rfl, ?_⟩) hHeld ?_
       rotate_left
       ·intro wz hz; (try dsimp only at hz); go_simp; try (with_reducible rfl)
       simp only [Act.put, List.setIfInBounds_toArray, List.set_cons_zero, List.set_cons_succ]
       refine wpAnyH_done (by kernel_rfl) ?_ _
       refine NoPanic.normal ?_
       clear hHeld HS HSN
       have AF := J.out.sp.done
       go_wp2_with fail
       generalize ((((wr.setCell ⟨w.heap.size, 0, none⟩ (.int .i64 z0)).setCell ⟨w.heap.size, 1, none⟩ (.int .i64 z1)).setCell ⟨w.heap.size, 2, none⟩ (.slice a k c)).setCell ⟨w.heap.size, 3, none⟩ (.slice a3 k3 c3)) = wf at AF ⊢
       have d0 := (blk_cell AF.1 0 (x := .int .i64 z0) rfl).1
       have d1 := (blk_cell AF.1 1 (x := .int .i64 z1) rfl).1
       have d2 := (blk_cell AF.1 2 (x := .slice a k c) rfl).1
       have d3 := (blk_cell AF.1 3 (x := .slice a3 k3 c3) rfl).1
       refine bodyPost_ret (v := .tuple #[.agg #[.int .i64 z0, .int .i64 z1, .slice a k c, .slice a3 k3 c3], .bool false]) (by simp [results, Tryd.results35, go_sem, d0, d1, d2, d3]) rfl ?_
       exact ⟨z0, z1, _, _, ms, ss, by rw [HOK.out]; rfl, ⟨Mem.mono (Mem.kept (W' := wf.drew) AF.2.2 fun _ _ _ => rfl) (by omega), fun h => by rw [HOK.out] at h; cases h⟩, AF.2.1.drew⟩
      ·have HSM := tbO_small xs HRX.out
       have hOK : rtOK xs = bOf (TOK (tbO xs)) := by unfold rtOK; rw [g1, g2]; rfl
       rw [g3] at hOK HSM
       have HP := HT.out.2.2.1
       obtain ⟨s', p, hs1, _, _⟩ := HP.rd
       have J : Hid (Rs w tq s' wr z0 z1 (.slice a k c) (.slice a3 k3 c3) ms ss [] false) := ⟨HP, p⟩
       have HS : Hid (∀ W, Rs w tq s' W z0 z1 (.slice a k c) (.slice a3 k3 c3) ms ss [] false → W.cell? ⟨w.heap.size + 1, 0, none⟩ = some (.string s') ∧ W.cell? ⟨w.heap.size + 1, 1, none⟩ = some (.bool false) ∧ W.cell? ⟨tq, 0, none⟩ = some (.int .i64 z0) ∧ W.cell? ⟨tq, 1, none⟩ = some (.int .i64 z1) ∧ W.cell? ⟨tq, 2, none⟩ = some (.slice a k c) ∧ W.cell? ⟨tq, 3, none⟩ = some (.slice a3 k3 c3)) := fun W h => h.cells
       have HSN : Hid (∀ W, Rs w tq s' W z0 z1 (.slice a k c) (.slice a3 k3 c3) ms ss [] false → ((((W.setCell ⟨w.heap.size, 0, none⟩ (.int .i64 z0)).setCell ⟨w.heap.size, 1, none⟩ (.int .i64 z1)).setCell ⟨w.heap.size, 2, none⟩ (.slice a k c)).setCell ⟨w.heap.size, 3, none⟩ (.slice a3 k3 c3)).cell? ⟨w.heap.size + 1, 0, none⟩ = some (.string s') ∧ ((((W.setCell ⟨w.heap.size, 0, none⟩ (.int .i64 z0)).setCell ⟨w.heap.size, 1, none⟩ (.int .i64 z1)).setCell ⟨w.heap.size, 2, none⟩ (.slice a k c)).setCell ⟨w.heap.size, 3, none⟩ (.slice a3 k3 c3)).cell? ⟨w.heap.size + 1, 1, none⟩ = some (.bool false) ∧ ((((W.setCell ⟨w.heap.size, 0, none⟩ (.int .i64 z0)).setCell ⟨w.heap.size, 1, none⟩ (.int .i64 z1)).setCell ⟨w.heap.size, 2, none⟩ (.slice a k c)).setCell ⟨w.heap.size, 3, none⟩ (.slice a3 k3 c3)).cell? ⟨tq, 0, none⟩ = some (.int .i64 z0) ∧ ((((W.setCell ⟨w.heap.size, 0, none⟩ (.int .i64 z0)).setCell ⟨w.heap.size, 1, none⟩ (.int .i64 z1)).setCell ⟨w.heap.size, 2, none⟩ (.slice a k c)).setCell ⟨w.heap.size, 3, none⟩ (.slice a3 k3 c3)).cell? ⟨tq, 1, none⟩ = some (.int .i64 z1) ∧ ((((W.setCell ⟨w.heap.size, 0, none⟩ (.int .i64 z0)).setCell ⟨w.heap.size, 1, none⟩ (.int .i64 z1)).setCell ⟨w.heap.size, 2, none⟩ (.slice a k c)).setCell ⟨w.heap.size, 3, none⟩ (.slice a3 k3 c3)).cell? ⟨tq, 2, none⟩ = some (.slice a k c) ∧ ((((W.setCell ⟨w.heap.size, 0, none⟩ (.int .i64 z0)).setCell ⟨w.heap.size, 1, none⟩ (.int .i64 z1)).setCell ⟨w.heap.size, 2, none⟩ (.slice a k c)).setCell ⟨w.heap.size, 3, none⟩ (.slice a3 k3 c3)).cell? ⟨tq, 3, none⟩ = some (.slice a3 k3 c3)) := fun W h => h.cellsN _ _ _ _
       obtain ⟨zc0, zf0⟩ := blk_cell HP.a 0 (x := .int .i64 0) rfl
       obtain ⟨zc1, zf1⟩ := blk_cell HP.a 1 (x := .int .i64 0) rfl
       obtain ⟨zc2, zf2⟩ := blk_cell HP.a 2 (x := .slice none 0 0) rfl
       obtain ⟨zc3, zf3⟩ := blk_cell HP.a 3 (x := .slice none 0 0) rfl
       obtain rfl : s' = ⟨#[]⟩ := bys_nil (hs1 rfl)
       have HTB : Hid (tbO xs = ⟨z0, z1, ms.map (·.1), ss⟩) := g3
       have HTO : Hid (∀ W, Rs w tq ⟨#[]⟩ W z0 z1 (.slice a k c) (.slice a3 k3 c3) ms ss [] false → Calls Tryd.prog 29 #[.agg #[.int .i64 z0, .int .i64 z1, .slice a k c, .slice a3 k3 c3]] W fun e w' => e = .returned (.bool (rtOK xs)) ∧ Rs w tq ⟨#[]⟩ w' z0 z1 (.slice a k c) (.slice a3 k3 c3) ms ss [] false) := fun W hW => by
        obtain ⟨r1, r2⟩ := Mem.rows hW.sp.me
        obtain ⟨t1, t2, t3⟩ := HSM
        refine (Go.Proofs.YtakfniknkejgpaaDoor.Tq.specTableOK_any z0 z1 _ _ (ms.map (·.1)) ss W r1 r2 t3 (by dsimp only at t1; omega) (by dsimp only at t2; omega)).mono ?_
        rintro e w' ⟨rfl, b⟩
        exact ⟨by rw [hOK], hW.up b⟩
       obtain ⟨bb, HOK⟩ : ∃ b, Hid (rtOK xs = b) := ⟨_, rfl⟩
       rw [HOK.out] at HTO
       clear hOK HSM g1 g2 g3 HP HT HFO p hbad hs1 hi0 hz0 hz1 hz2 hj0 hy0 hy1 hy2 hk0 hx0 hx1 hx2
       go_upto_region 28 with fail
       refine wp_region_noPanic ?_
       refine wp_region_held_drew (S := fun W => W.cell? ⟨w.heap.size + 1, 0, none⟩ = some (.string ⟨#[]⟩) ∧ W.cell? ⟨w.heap.size + 1, 1, none⟩ = some (.bool false) ∧ W.cell? ⟨tq, 0, none⟩ = some (.int .i64 z0) ∧ W.cell? ⟨tq, 1, none⟩ = some (.int .i64 z1) ∧ W.cell? ⟨tq, 2, none⟩ = some (.slice a k c) ∧ W.cell? ⟨tq, 3, none⟩ = some (.slice a3 k3 c3)) (by kernel_rfl) (HS.out _ J.out.drew) (fun hHeld => ?_)
       refine wpAnyH_take (i := 0) (oi := ⟨some 126, .load 26 (.tmp 5), 26, "l05_locks.go:331", #[], none⟩) (v := ?_) rfl (by kernel_rfl) (by kernel_rfl) (by kernel_rfl) (fun _ _ _ h => h) (Or.inl ⟨by rfl, ?_⟩) hHeld ?_
       rotate_left
       ·intro wz hz; (try dsimp only at hz); go_simp; try (with_reducible rfl)
       simp only [Act.put, List.setIfInBounds_toArray, List.set_cons_zero, List.set_cons_succ]
       refine wpAnyH_take (i := 1) (oi := ⟨some 127, .move (.tmp 4), 108, "l05_locks.go:331", #[], none⟩) (v := ?_) rfl (by kernel_rfl) (by kernel_rfl) (by kernel_rfl) (fun _ _ _ h => h) (Or.inl ⟨by rfl, ?_⟩) hHeld ?_
       rotate_left
       ·intro wz hz; (try dsimp only at hz); go_simp; try (with_reducible rfl)
       simp only [Act.put, List.setIfInBounds_toArray, List.set_cons_zero, List.set_cons_succ]
       refine wpAnyH_take (i := 2) (oi := ⟨some 128, .nilCheck (.tmp 127), 0, "l05_locks.go:331", #[⟨1, .data⟩], none⟩) (v := ?_) rfl (by kernel_rfl) (by kernel_rfl) (by kernel_rfl) (fun _ _ _ h => h) (Or.inl ⟨by rfl, ?_⟩) hHeld ?_
       rotate_left
       ·intro wz hz; (try dsimp only at hz); go_simp; try (with_reducible rfl)
       simp only [Act.put, List.setIfInBounds_toArray, List.set_cons_zero, List.set_cons_succ]
       refine wpAnyH_take (i := 3) (oi := ⟨some 129, .fieldAddr 110 (.tmp 128) 1, 0, "l05_locks.go:331", #[⟨2, .data⟩], none⟩) (v := ?_) rfl (by kernel_rfl) (by kernel_rfl) (by kernel_rfl) (fun _ _ _ h => h) (Or.inl ⟨by rfl, ?_⟩) hHeld ?_
       rotate_left
       ·intro wz hz; (try dsimp only at hz); go_simp; try (with_reducible rfl)
       simp only [Act.put, List.setIfInBounds_toArray, List.set_cons_zero, List.set_cons_succ]
       refine wpAnyH_take (i := 4) (oi := ⟨some 130, .load 4 (.tmp 129), 4, "l05_locks.go:331", #[⟨3, .data⟩], none⟩) (v := ?_) rfl (by kernel_rfl) (by kernel_rfl) (by kernel_rfl) (fun _ _ _ h => h) (Or.inl ⟨by rfl, ?_⟩) hHeld ?_
       rotate_left
       ·intro wz hz; (try dsimp only at hz); go_simp; try (with_reducible rfl)
       simp only [Act.put, List.setIfInBounds_toArray, List.set_cons_zero, List.set_cons_succ]
       refine wpAnyH_take (i := 5) (oi := ⟨some 131, .unOp UnOp.not 4 (.tmp 130), 4, "l05_locks.go:331", #[⟨4, .data⟩], none⟩) (v := ?_) rfl (by kernel_rfl) (by kernel_rfl) (by kernel_rfl) (fun _ _ _ h => h) (Or.inl ⟨by rfl, ?_⟩) hHeld ?_
       rotate_left
       ·intro wz hz; (try dsimp only at hz); go_simp; try (with_reducible rfl)
       simp only [Act.put, List.setIfInBounds_toArray, List.set_cons_zero, List.set_cons_succ]
       refine wpAnyH_take (i := 6) (oi := ⟨some 132, .move (.tmp 131), 4, "l05_locks.go:331", #[⟨5, .data⟩], none⟩) (v := ?_) rfl (by kernel_rfl) (by kernel_rfl) (by kernel_rfl) (fun _ _ _ h => h) (Or.inl ⟨by rfl, ?_⟩) hHeld ?_
       rotate_left
       ·intro wz hz; (try dsimp only at hz); go_simp; try (with_reducible rfl)
       simp only [Act.put, List.setIfInBounds_toArray, List.set_cons_zero, List.set_cons_succ]
       refine wpAnyH_take (i := 7) (oi := ⟨some 133, .move (.tmp 4), 108, "l05_locks.go:331", #[⟨6, .guard⟩], some (6, true)⟩) (v := ?_) rfl (by kernel_rfl) (by kernel_rfl) (by kernel_rfl) (fun _ _ _ h => h) (Or.inl ⟨by rfl, ?_⟩) hHeld ?_
       rotate_left
       ·intro wz hz; (try dsimp only at hz); go_simp; try (with_reducible rfl)
       simp only [Act.put, List.setIfInBounds_toArray, List.set_cons_zero, List.set_cons_succ]
       refine wpAnyH_take (i := 8) (oi := ⟨some 134, .nilCheck (.tmp 133), 0, "l05_locks.go:331", #[⟨7, .data⟩, ⟨6, .guard⟩], some (6, true)⟩) (v := ?_) rfl (by kernel_rfl) (by kernel_rfl) (by kernel_rfl) (fun _ _ _ h => h) (Or.inl ⟨by rfl, ?_⟩) hHeld ?_
       rotate_left
       ·intro wz hz; (try dsimp only at hz); go_simp; try (with_reducible rfl)
       simp only [Act.put, List.setIfInBounds_toArray, List.set_cons_zero, List.set_cons_succ]
       refine wpAnyH_take (i := 9) (oi := ⟨some 135, .fieldAddr 110 (.tmp 134) 0, 0, "l05_locks.go:331", #[⟨8, .data⟩, ⟨6, .guard⟩], some (6, true)⟩) (v := ?_) rfl (by kernel_rfl) (by kernel_rfl) (by kernel_rfl) (fun _ _ _ h => h) (Or.inl ⟨by rfl, ?_⟩) hHeld ?_
       rotate_left
       ·intro wz hz; (try dsimp only at hz); go_simp; try (with_reducible rfl)
       simp only [Act.put, List.setIfInBounds_toArray, List.set_cons_zero, List.set_cons_succ]
       refine wpAnyH_take (i := 10) (oi := ⟨some 136, .load 9 (.tmp 135), 9, "l05_locks.go:331", #[⟨9, .data⟩, ⟨6, .guard⟩], some (6, true)⟩) (v := ?_) rfl (by kernel_rfl) (by kernel_rfl) (by kernel_rfl) (fun _ _ _ h => h) (Or.inl ⟨by rfl, ?_⟩) hHeld ?_
       rotate_left
       ·intro wz hz; (try dsimp only at hz); go_simp; try (with_reducible rfl)
       simp only [Act.put, List.setIfInBounds_toArray, List.set_cons_zero, List.set_cons_succ]
       refine wpAnyH_take (i := 11) (oi := ⟨some 137, .binOp BinOp.eql 9 (.tmp 136) (Operand.const (Value.string { data := #[] })) 9, 4, "l05_locks.go:331", #[⟨10, .data⟩, ⟨6, .guard⟩], some (6, true)⟩) (v := ?_) rfl (by kernel_rfl) (by kernel_rfl) (by kernel_rfl) (fun _ _ _ h => h) (Or.inl ⟨by rfl, ?_⟩) hHeld ?_
       rotate_left
       ·intro wz hz; (try dsimp only at hz); go_simp; try (with_reducible rfl)
       simp only [Act.put, List.setIfInBounds_toArray, List.set_cons_zero, List.set_cons_succ]
       refine wpAnyH_take (i := 12) (oi := ⟨some 138, .pick (.tmp 132) (.tmp 137) (Operand.const (Value.bool false)), 4, "l05_locks.go:331", #[⟨6, .data⟩, ⟨11, .data⟩], none⟩) (v := ?_) rfl (by kernel_rfl) (by kernel_rfl) (by kernel_rfl) (fun _ _ _ h => h) (Or.inl ⟨by rfl, ?_⟩) hHeld ?_
       rotate_left
       ·intro wz hz; (try dsimp only at hz); go_simp; try (with_reducible rfl)
       simp only [Act.put, List.setIfInBounds_toArray, List.set_cons_zero, List.set_cons_succ]
       refine wpAnyH_take (i := 13) (oi := ⟨some 139, .move (.tmp 138), 4, "l05_locks.go:331", #[⟨12, .data⟩, ⟨6, .chain⟩], none⟩) (v := ?_) rfl (by kernel_rfl) (by kernel_rfl) (by kernel_rfl) (fun _ _ _ h => h) (Or.inl ⟨by rfl, ?_⟩) hHeld ?_
       rotate_left
       ·intro wz hz; (try dsimp only at hz); go_simp; try (with_reducible rfl)
       simp only [Act.put, List.setIfInBounds_toArray, List.set_cons_zero, List.set_cons_succ]
       refine wpAnyH_take (i := 14) (oi := ⟨some 140, .load 26 (.tmp 5), 26, "l05_locks.go:331", #[⟨13, .guard⟩], some (13, true)⟩) (v := ?_) rfl (by kernel_rfl) (by kernel_rfl) (by kernel_rfl) (fun _ _ _ h => h) (Or.inl ⟨by rfl, ?_⟩) hHeld ?_
       rotate_left
       ·intro wz hz; (try dsimp only at hz); go_simp; try (with_reducible rfl)
       simp only [Act.put, List.setIfInBounds_toArray, List.set_cons_zero, List.set_cons_succ]
       refine wpAnyH_ready (rs := [15]) (by kernel_rfl) (by simp) ?_
       refine AllReadyH.cons (o := ⟨some 141, .call { callee := Callee.value (Operand.func 29), args := #[Operand.tmp 140], argTypes := #[26] }, 4, "l05_locks.go:331", #[⟨14, .data⟩, ⟨13, .chain⟩, ⟨13, .guard⟩], some (13, true)⟩) rfl (fun K hK => ?_) AllReadyH.nil
       go_simp
       go_at_call 29
       refine (HTO.out _ (by first | exact J.out | exact J.out.drew)).mono ?_
       rintro e w6 ⟨rfl, J6⟩
       have j6 := J6.sp
       obtain ⟨yc0, yf0⟩ := blk_cell j6.a 0 (x := .int .i64 0) rfl
       obtain ⟨yc1, yf1⟩ := blk_cell j6.a 1 (x := .int .i64 0) rfl
       obtain ⟨yc2, yf2⟩ := blk_cell j6.a 2 (x := .slice none 0 0) rfl
       obtain ⟨yc3, yf3⟩ := blk_cell j6.a 3 (x := .slice none 0 0) rfl
       try go_simp
       refine hK.out _ _ ?_ (fun hHeld => ?_)
       ·exact HS.out _ J6
       clear hK K
       refine wpAnyH_take (i := 16) (oi := ⟨some 142, .pick (.tmp 139) (.tmp 141) (Operand.const (Value.bool false)), 4, "l05_locks.go:331", #[⟨13, .data⟩, ⟨15, .data⟩, ⟨17, .gcOnly .lateStores⟩], none⟩) (v := ?_) rfl (by kernel_rfl) (by kernel_rfl) (by kernel_rfl) (fun _ _ _ h => h) (Or.inl ⟨by rfl, ?_⟩) hHeld ?_
       rotate_left
       ·intro wz hz; (try dsimp only at hz); go_simp; try (with_reducible rfl)
       simp only [Act.put, List.setIfInBounds_toArray, List.set_cons_zero, List.set_cons_succ]
       refine wpAnyH_ready (rs := [17]) (by kernel_rfl) (by simp) ?_
       refine AllReadyH.cons (o := ⟨none, .store 26 (.tmp 2) (.tmp 126), 0, "l05_locks.go:331", #[⟨0, .data⟩, ⟨15, .chain⟩, ⟨0, .phase⟩, ⟨1, .textOnly .lateStores⟩, ⟨2, .textOnly .lateStores⟩, ⟨3, .textOnly .lateStores⟩, ⟨4, .textOnly .lateStores⟩, ⟨5, .textOnly .lateStores⟩, ⟨6, .textOnly .lateStores⟩, ⟨7, .textOnly .lateStores⟩, ⟨8, .textOnly .lateStores⟩, ⟨9, .textOnly .lateStores⟩, ⟨10, .textOnly .lateStores⟩, ⟨11, .textOnly .lateStores⟩, ⟨12, .textOnly .lateStores⟩, ⟨13, .textOnly .lateStores⟩, ⟨14, .textOnly .lateStores⟩, ⟨15, .textOnly .lateStoresUnsure⟩, ⟨16, .textOnly .lateStores⟩], none⟩) rfl (fun K hK => ?_) AllReadyH.nil
       go_simp
       refine hK.out _ _ ?_ (fun hHeld => ?_)
       ·exact HSN.out _ J6
       clear hK K
       refine wpAnyH_take (i := 18) (oi := ⟨some 3, .assign (.tmp 142), 4, "l05_locks.go:331", #[⟨16, .data⟩, ⟨17, .chain⟩, ⟨0, .phase⟩, ⟨1, .phase⟩, ⟨2, .phase⟩, ⟨3, .phase⟩, ⟨4, .phase⟩, ⟨5, .phase⟩, ⟨6, .phase⟩, ⟨7, .phase⟩, ⟨8, .phase⟩, ⟨9, .phase⟩, ⟨10, .phase⟩, ⟨11, .phase⟩, ⟨12, .phase⟩, ⟨13, .phase⟩, ⟨14, .phase⟩, ⟨15, .phase⟩, ⟨16, .phase⟩, ⟨17, .phase⟩], none⟩) (v := ?_) rfl (by kernel_rfl) (by kernel_rfl) (by kernel_rfl) (fun _ _ _ h => h) (Or.inl ⟨by rfl, ?_⟩) hHeld ?_
       rotate_left
       ·intro wz hz; (try dsimp only at hz); go_simp; try (with_reducible rfl)
       simp only [Act.put, List.setIfInBounds_toArray, List.set_cons_zero, List.set_cons_succ]
       refine wpAnyH_done (by kernel_rfl) ?_ _
       refine NoPanic.normal ?_
       clear hHeld HS HSN
       have AF := j6.done
       go_wp2_with fail
       generalize ((((w6.setCell ⟨w.heap.size, 0, none⟩ (.int .i64 z0)).setCell ⟨w.heap.size, 1, none⟩ (.int .i64 z1)).setCell ⟨w.heap.size, 2, none⟩ (.slice a k c)).setCell ⟨w.heap.size, 3, none⟩ (.slice a3 k3 c3)) = wf at AF ⊢
       have d0 := (blk_cell AF.1 0 (x := .int .i64 z0) rfl).1
       have d1 := (blk_cell AF.1 1 (x := .int .i64 z1) rfl).1
       have d2 := (blk_cell AF.1 2 (x := .slice a k c) rfl).1
       have d3 := (blk_cell AF.1 3 (x := .slice a3 k3 c3) rfl).1
       refine bodyPost_ret (v := .tuple #[.agg #[.int .i64 z0, .int .i64 z1, .slice a k c, .slice a3 k3 c3], .bool bb]) (by simp [results, Tryd.results35, go_sem, d0, d1, d2, d3]) rfl ?_
       exact ⟨z0, z1, _, _, ms, ss, by rw [HOK.out]; rfl, ⟨Mem.mono AF.2.2 (by omega), fun _ => HTB.out⟩, AF.2.1⟩
    all_goals
     have HOK : Hid (rtOK xs = false) := by show _ = _; unfold rtOK; rw [HFZ]; rfl
     have HP := HT.out.2.2.1
     obtain ⟨s', p, hs1, _, _⟩ := HP.rd
     have J : Hid (Rs w tq s' wr z0 z1 (.slice a k c) (.slice a3 k3 c3) ms ss zs true) := ⟨HP, p⟩
     have HS : Hid (∀ W, Rs w tq s' W z0 z1 (.slice a k c) (.slice a3 k3 c3) ms ss zs true → W.cell? ⟨w.heap.size + 1, 0, none⟩ = some (.string s') ∧ W.cell? ⟨w.heap.size + 1, 1, none⟩ = some (.bool true) ∧ W.cell? ⟨tq, 0, none⟩ = some (.int .i64 z0) ∧ W.cell? ⟨tq, 1, none⟩ = some (.int .i64 z1) ∧ W.cell? ⟨tq, 2, none⟩ = some (.slice a k c) ∧ W.cell? ⟨tq, 3, none⟩ = some (.slice a3 k3 c3)) := fun W h => h.cells
     have HSN : Hid (∀ W, Rs w tq s' W z0 z1 (.slice a k c) (.slice a3 k3 c3) ms ss zs true → ((((W.setCell ⟨w.heap.size, 0, none⟩ (.int .i64 z0)).setCell ⟨w.heap.size, 1, none⟩ (.int .i64 z1)).setCell ⟨w.heap.size, 2, none⟩ (.slice a k c)).setCell ⟨w.heap.size, 3, none⟩ (.slice a3 k3 c3)).cell? ⟨w.heap.size + 1, 0, none⟩ = some (.string s') ∧ ((((W.setCell ⟨w.heap.size, 0, none⟩ (.int .i64 z0)).setCell ⟨w.heap.size, 1, none⟩ (.int .i64 z1)).setCell ⟨w.heap.size, 2, none⟩ (.slice a k c)).setCell ⟨w.heap.size, 3, none⟩ (.slice a3 k3 c3)).cell? ⟨w.heap.size + 1, 1, none⟩ = some (.bool true) ∧ ((((W.setCell ⟨w.heap.size, 0, none⟩ (.int .i64 z0)).setCell ⟨w.heap.size, 1, none⟩ (.int .i64 z1)).setCell ⟨w.heap.size, 2, none⟩ (.slice a k c)).setCell ⟨w.heap.size, 3, none⟩ (.slice a3 k3 c3)).cell? ⟨tq, 0, none⟩ = some (.int .i64 z0) ∧ ((((W.setCell ⟨w.heap.size, 0, none⟩ (.int .i64 z0)).setCell ⟨w.heap.size, 1, none⟩ (.int .i64 z1)).setCell ⟨w.heap.size, 2, none⟩ (.slice a k c)).setCell ⟨w.heap.size, 3, none⟩ (.slice a3 k3 c3)).cell? ⟨tq, 1, none⟩ = some (.int .i64 z1) ∧ ((((W.setCell ⟨w.heap.size, 0, none⟩ (.int .i64 z0)).setCell ⟨w.heap.size, 1, none⟩ (.int .i64 z1)).setCell ⟨w.heap.size, 2, none⟩ (.slice a k c)).setCell ⟨w.heap.size, 3, none⟩ (.slice a3 k3 c3)).cell? ⟨tq, 2, none⟩ = some (.slice a k c) ∧ ((((W.setCell ⟨w.heap.size, 0, none⟩ (.int .i64 z0)).setCell ⟨w.heap.size, 1, none⟩ (.int .i64 z1)).setCell ⟨w.heap.size, 2, none⟩ (.slice a k c)).setCell ⟨w.heap.size, 3, none⟩ (.slice a3 k3 c3)).cell? ⟨tq, 3, none⟩ = some (.slice a3 k3 c3)) := fun W h => h.cellsN _ _ _ _
     obtain ⟨zc0, zf0⟩ := blk_cell HP.a 0 (x := .int .i64 0) rfl
     obtain ⟨zc1, zf1⟩ := blk_cell HP.a 1 (x := .int .i64 0) rfl
     obtain ⟨zc2, zf2⟩ := blk_cell HP.a 2 (x := .slice none 0 0) rfl
     obtain ⟨zc3, zf3⟩ := blk_cell HP.a 3 (x := .slice none 0 0) rfl
     clear HFZ HP HT HFO p hs1 hi0 hz0 hz1 hz2 hj0 hy0 hy1 hy2 hk0 hx0 hx1 hx2
     go_upto_region 28 with fail
     clear hbad
     refine wp_region_noPanic ?_
     refine wp_region_held_drew (S := fun W => W.cell? ⟨w.heap.size + 1, 0, none⟩ = some (.string s') ∧ W.cell? ⟨w.heap.size + 1, 1, none⟩ = some (.bool true) ∧ W.cell? ⟨tq, 0, none⟩ = some (.int .i64 z0) ∧ W.cell? ⟨tq, 1, none⟩ = some (.int .i64 z1) ∧ W.cell? ⟨tq, 2, none⟩ = some (.slice a k c) ∧ W.cell? ⟨tq, 3, none⟩ = some (.slice a3 k3 c3)) (by kernel_rfl) (HS.out _ J.out.drew) (fun hHeld => ?_)
     refine wpAnyH_take (i := 0) (oi := ⟨some 126, .load 26 (.tmp 5), 26, "l05_locks.go:331", #[], none⟩) (v := ?_) rfl (by kernel_rfl) (by kernel_rfl) (by kernel_rfl) (fun _ _ _ h => h) (Or.inl ⟨by rfl, ?_⟩) hHeld ?_
     rotate_left
     ·intro wz hz; (try dsimp only at hz); go_simp; try (with_reducible rfl)
     simp only [Act.put, List.setIfInBounds_toArray, List.set_cons_zero, List.set_cons_succ]
     refine wpAnyH_take (i := 1) (oi := ⟨some 127, .move (.tmp 4), 108, "l05_locks.go:331", #[], none⟩) (v := ?_) rfl (by kernel_rfl) (by kernel_rfl) (by kernel_rfl) (fun _ _ _ h => h) (Or.inl ⟨by rfl, ?_⟩) hHeld ?_
     rotate_left
     ·intro wz hz; (try dsimp only at hz); go_simp; try (with_reducible rfl)
     simp only [Act.put, List.setIfInBounds_toArray, List.set_cons_zero, List.set_cons_succ]
     refine wpAnyH_take (i := 2) (oi := ⟨some 128, .nilCheck (.tmp 127), 0, "l05_locks.go:331", #[⟨1, .data⟩], none⟩) (v := ?_) rfl (by kernel_rfl) (by kernel_rfl) (by kernel_rfl) (fun _ _ _ h => h) (Or.inl ⟨by rfl, ?_⟩) hHeld ?_
     rotate_left
     ·intro wz hz; (try dsimp only at hz); go_simp; try (with_reducible rfl)
     simp only [Act.put, List.setIfInBounds_toArray, List.set_cons_zero, List.set_cons_succ]
     refine wpAnyH_take (i := 3) (oi := ⟨some 129, .fieldAddr 110 (.tmp 128) 1, 0, "l05_locks.go:331", #[⟨2, .data⟩], none⟩) (v := ?_) rfl (by kernel_rfl) (by kernel_rfl) (by kernel_rfl) (fun _ _ _ h => h) (Or.inl ⟨by rfl, ?_⟩) hHeld ?_
     rotate_left
     ·intro wz hz; (try dsimp only at hz); go_simp; try (with_reducible rfl)
     simp only [Act.put, List.setIfInBounds_toArray, List.set_cons_zero, List.set_cons_succ]
     refine wpAnyH_take (i := 4) (oi := ⟨some 130, .load 4 (.tmp 129), 4, "l05_locks.go:331", #[⟨3, .data⟩], none⟩) (v := ?_) rfl (by kernel_rfl) (by kernel_rfl) (by kernel_rfl) (fun _ _ _ h => h) (Or.inl ⟨by rfl, ?_⟩) hHeld ?_
     rotate_left
     ·intro wz hz; (try dsimp only at hz); go_simp; try (with_reducible rfl)
     simp only [Act.put, List.setIfInBounds_toArray, List.set_cons_zero, List.set_cons_succ]
     refine wpAnyH_take (i := 5) (oi := ⟨some 131, .unOp UnOp.not 4 (.tmp 130), 4, "l05_locks.go:331", #[⟨4, .data⟩], none⟩) (v := ?_) rfl (by kernel_rfl) (by kernel_rfl) (by kernel_rfl) (fun _ _ _ h => h) (Or.inl ⟨by rfl, ?_⟩) hHeld ?_
     rotate_left
     ·intro wz hz; (try dsimp only at hz); go_simp; try (with_reducible rfl)
     simp only [Act.put, List.setIfInBounds_toArray, List.set_cons_zero, List.set_cons_succ]
     refine wpAnyH_take (i := 6) (oi := ⟨some 132, .move (.tmp 131), 4, "l05_locks.go:331", #[⟨5, .data⟩], none⟩) (v := ?_) rfl (by kernel_rfl) (by kernel_rfl) (by kernel_rfl) (fun _ _ _ h => h) (Or.inl ⟨by rfl, ?_⟩) hHeld ?_
     rotate_left
     ·intro wz hz; (try dsimp only at hz); go_simp; try (with_reducible rfl)
     simp only [Act.put, List.setIfInBounds_toArray, List.set_cons_zero, List.set_cons_succ]
     refine wpAnyH_take (i := 7) (oi := ⟨some 133, .move (.tmp 4), 108, "l05_locks.go:331", #[⟨6, .guard⟩], some (6, true)⟩) (v := undef) rfl (by kernel_rfl) (by kernel_rfl) (by kernel_rfl) (fun _ _ _ h => h) (Or.inr ⟨by rfl, rfl⟩) hHeld ?_
     simp only [Act.put, List.setIfInBounds_toArray, List.set_cons_zero, List.set_cons_succ]
     refine wpAnyH_take (i := 8) (oi := ⟨some 134, .nilCheck (.tmp 133), 0, "l05_locks.go:331", #[⟨7, .data⟩, ⟨6, .guard⟩], some (6, true)⟩) (v := undef) rfl (by kernel_rfl) (by kernel_rfl) (by kernel_rfl) (fun _ _ _ h => h) (Or.inr ⟨by rfl, rfl⟩) hHeld ?_
     simp only [Act.put, List.setIfInBounds_toArray, List.set_cons_zero, List.set_cons_succ]
     refine wpAnyH_take (i := 9) (oi := ⟨some 135, .fieldAddr 110 (.tmp 134) 0, 0, "l05_locks.go:331", #[⟨8, .data⟩, ⟨6, .guard⟩], some (6, true)⟩) (v := undef) rfl (by kernel_rfl) (by kernel_rfl) (by kernel_rfl) (fun _ _ _ h => h) (Or.inr ⟨by rfl, rfl⟩) hHeld ?_
     simp only [Act.put, List.setIfInBounds_toArray, List.set_cons_zero, List.set_cons_succ]
     refine wpAnyH_take (i := 10) (oi := ⟨some 136, .load 9 (.tmp 135), 9, "l05_locks.go:331", #[⟨9, .data⟩, ⟨6, .guard⟩], some (6, true)⟩) (v := undef) rfl (by kernel_rfl) (by kernel_rfl) (by kernel_rfl) (fun _ _ _ h => h) (Or.inr ⟨by rfl, rfl⟩) hHeld ?_
     simp only [Act.put, List.setIfInBounds_toArray, List.set_cons_zero, List.set_cons_succ]
     refine wpAnyH_take (i := 11) (oi := ⟨some 137, .binOp BinOp.eql 9 (.tmp 136) (Operand.const (Value.string { data := #[] })) 9, 4, "l05_locks.go:331", #[⟨10, .data⟩, ⟨6, .guard⟩], some (6, true)⟩) (v := undef) rfl (by kernel_rfl) (by kernel_rfl) (by kernel_rfl) (fun _ _ _ h => h) (Or.inr ⟨by rfl, rfl⟩) hHeld ?_
     simp only [Act.put, List.setIfInBounds_toArray, List.set_cons_zero, List.set_cons_succ]
     refine wpAnyH_take (i := 12) (oi := ⟨some 138, .pick (.tmp 132) (.tmp 137) (Operand.const (Value.bool false)), 4, "l05_locks.go:331", #[⟨6, .data⟩, ⟨11, .data⟩], none⟩) (v := ?_) rfl (by kernel_rfl) (by kernel_rfl) (by kernel_rfl) (fun _ _ _ h => h) (Or.inl ⟨by rfl, ?_⟩) hHeld ?_
     rotate_left
     ·intro wz hz; (try dsimp only at hz); go_simp; try (with_reducible rfl)
     simp only [Act.put, List.setIfInBounds_toArray, List.set_cons_zero, List.set_cons_succ]
     refine wpAnyH_take (i := 13) (oi := ⟨some 139, .move (.tmp 138), 4, "l05_locks.go:331", #[⟨12, .data⟩, ⟨6, .chain⟩], none⟩) (v := ?_) rfl (by kernel_rfl) (by kernel_rfl) (by kernel_rfl) (fun _ _ _ h => h) (Or.inl ⟨by rfl, ?_⟩) hHeld ?_
     rotate_left
     ·intro wz hz; (try dsimp only at hz); go_simp; try (with_reducible rfl)
     simp only [Act.put, List.setIfInBounds_toArray, List.set_cons_zero, List.set_cons_succ]
     refine wpAnyH_take (i := 14) (oi := ⟨some 140, .load 26 (.tmp 5), 26, "l05_locks.go:331", #[⟨13, .guard⟩], some (13, true)⟩) (v := undef) rfl (by kernel_rfl) (by kernel_rfl) (by kernel_rfl) (fun _ _ _ h => h) (Or.inr ⟨by rfl, rfl⟩) hHeld ?_
     simp only [Act.put, List.setIfInBounds_toArray, List.set_cons_zero, List.set_cons_succ]
     refine wpAnyH_take (i := 15) (oi := ⟨some 141, .call { callee := Callee.value (Operand.func 29), args := #[Operand.tmp 140], argTypes := #[26] }, 4, "l05_locks.go:331", #[⟨14, .data⟩, ⟨13, .chain⟩, ⟨13, .guard⟩], some (13, true)⟩) (v := undef) rfl (by kernel_rfl) (by kernel_rfl) (by kernel_rfl) (fun _ _ _ h => h) (Or.inr ⟨by rfl, rfl⟩) hHeld ?_
     simp only [Act.put, List.setIfInBounds_toArray, List.set_cons_zero, List.set_cons_succ]
     refine wpAnyH_take (i := 16) (oi := ⟨some 142, .pick (.tmp 139) (.tmp 141) (Operand.const (Value.bool false)), 4, "l05_locks.go:331", #[⟨13, .data⟩, ⟨15, .data⟩, ⟨17, .gcOnly .lateStores⟩], none⟩) (v := ?_) rfl (by kernel_rfl) (by kernel_rfl) (by kernel_rfl) (fun _ _ _ h => h) (Or.inl ⟨by rfl, ?_⟩) hHeld ?_
     rotate_left
     ·intro wz hz; (try dsimp only at hz); go_simp; try (with_reducible rfl)
     simp only [Act.put, List.setIfInBounds_toArray, List.set_cons_zero, List.set_cons_succ]
     refine wpAnyH_ready (rs := [17]) (by kernel_rfl) (by simp) ?_
     refine AllReadyH.cons (o := ⟨none, .store 26 (.tmp 2) (.tmp 126), 0, "l05_locks.go:331", #[⟨0, .data⟩, ⟨15, .chain⟩, ⟨0, .phase⟩, ⟨1, .textOnly .lateStores⟩, ⟨2, .textOnly .lateStores⟩, ⟨3, .textOnly .lateStores⟩, ⟨4, .textOnly .lateStores⟩, ⟨5, .textOnly .lateStores⟩, ⟨6, .textOnly .lateStores⟩, ⟨7, .textOnly .lateStores⟩, ⟨8, .textOnly .lateStores⟩, ⟨9, .textOnly .lateStores⟩, ⟨10, .textOnly .lateStores⟩, ⟨11, .textOnly .lateStores⟩, ⟨12, .textOnly .lateStores⟩, ⟨13, .textOnly .lateStores⟩, ⟨14, .textOnly .lateStores⟩, ⟨15, .textOnly .lateStoresUnsure⟩, ⟨16, .textOnly .lateStores⟩], none⟩) rfl (fun K hK => ?_) AllReadyH.nil
     go_simp
     refine hK.out _ _ ?_ (fun hHeld => ?_)
     ·first | exact HSN.out _ J.out | exact HSN.out _ J.out.drew
     clear hK K
     refine wpAnyH_take (i := 18) (oi := ⟨some 3, .assign (.tmp 142), 4, "l05_locks.go:331", #[⟨16, .data⟩, ⟨17, .chain⟩, ⟨0, .phase⟩, ⟨1, .phase⟩, ⟨2, .phase⟩, ⟨3, .phase⟩, ⟨4, .phase⟩, ⟨5, .phase⟩, ⟨6, .phase⟩, ⟨7, .phase⟩, ⟨8, .phase⟩, ⟨9, .phase⟩, ⟨10, .phase⟩, ⟨11, .phase⟩, ⟨12, .phase⟩, ⟨13, .phase⟩, ⟨14, .phase⟩, ⟨15, .phase⟩, ⟨16, .phase⟩, ⟨17, .phase⟩], none⟩) (v := ?_) rfl (by kernel_rfl) (by kernel_rfl) (by kernel_rfl) (fun _ _ _ h => h) (Or.inl ⟨by rfl, ?_⟩) hHeld ?_
     rotate_left
     ·intro wz hz; (try dsimp only at hz); go_simp; try (with_reducible rfl)
     simp only [Act.put, List.setIfInBounds_toArray, List.set_cons_zero, List.set_cons_succ]
     refine wpAnyH_done (by kernel_rfl) ?_ _
     refine NoPanic.normal ?_
     clear hHeld HS HSN
     have AF := J.out.sp.done
     go_wp2_with fail
     generalize ((((wr.setCell ⟨w.heap.size, 0, none⟩ (.int .i64 z0)).setCell ⟨w.heap.size, 1, none⟩ (.int .i64 z1)).setCell ⟨w.heap.size, 2, none⟩ (.slice a k c)).setCell ⟨w.heap.size, 3, none⟩ (.slice a3 k3 c3)) = wf at AF ⊢
     have d0 := (blk_cell AF.1 0 (x := .int .i64 z0) rfl).1
     have d1 := (blk_cell AF.1 1 (x := .int .i64 z1) rfl).1
     have d2 := (blk_cell AF.1 2 (x := .slice a k c) rfl).1
     have d3 := (blk_cell AF.1 3 (x := .slice a3 k3 c3) rfl).1
     refine bodyPost_ret (v := .tuple #[.agg #[.int .i64 z0, .int .i64 z1, .slice a k c, .slice a3 k3 c3], .bool false]) (by simp [results, Tryd.results35, go_sem, d0, d1, d2, d3]) rfl ?_
     exact ⟨z0, z1, _, _, ms, ss, by rw [HOK.out]; rfl, ⟨Mem.mono (Mem.kept (W' := wf.drew) AF.2.2 fun _ _ _ => rfl) (by omega), fun h => by rw [HOK.out] at h; cases h⟩, AF.2.1.drew⟩
end Go.Proofs.YtakfniknkejgpaaDoor.Us
