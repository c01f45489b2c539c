/- Texts put together: Ub, Htt, Pf. -/
import Derived.Test.YtakfniknkejgpaaDoorMp8
import Derived.Test.YtakfniknkejgpaaDoorMp3
/- TableBytes of the specification. -/
namespace Go.Proofs.YtakfniknkejgpaaDoor.Ub
open Go.RowKit Go.Proofs.YtakfniknkejgpaaDoor.Sl Go.Proofs.YtakfniknkejgpaaDoor.By Go.Proofs.YtakfniknkejgpaaDoor.Ap Go.Proofs.YtakfniknkejgpaaDoor.Tx Go.Proofs.YtakfniknkejgpaaDoor.Tb Go.Proofs.YtakfniknkejgpaaDoor.Tw Go.Proofs.YtakfniknkejgpaaDoor.Rq Go.Proofs.YtakfniknkejgpaaDoor.Tp Go.Proofs.YtakfniknkejgpaaDoor.Tq Go.Proofs.YtakfniknkejgpaaDoor.Pu Go.Proofs.YtakfniknkejgpaaDoor.Pt Go.Proofs.YtakfniknkejgpaaDoor.Ps

set_option maxRecDepth 100000 in
set_option maxHeartbeats 1600000 in
theorem specTableBytes_any (tm nx : Int) (vl vs : Value) (ls : List Lk) (ss : List Sn) (w : World) (hl : RowL w vl ls) (hs : RowS w vs ss) (hw : ∀ x ∈ ls, x.n.size ≤ 1048576 ∧ x.ws.length ≤ 1048576) (hy1 : ls.length ≤ 1048576) (hy2 : ss.length ≤ 1048576) :
 Calls Tryd.prog 7 #[tabV tm nx vl vs] w fun e w' => ∃ v, e = .returned (.tuple #[v, .int .i64 (tbCode tm nx ls ss)]) ∧ OwnB 5 w' w.heap.size v (tbOut tm nx ls ss) ∧ Below w.heap.size w w' := by
 obtain ⟨la, lc, rfl⟩ := RowG.slice hl
 obtain ⟨sa, sc, rfl⟩ := RowG.slice hs
 have HX : Hid (∀ W, Below (w.alloc (.cells #[.int .i64 tm, .int .i64 nx, .slice la ls.length lc, .slice sa ss.length sc] 26)).heap.size (w.alloc (.cells #[.int .i64 tm, .int .i64 nx, .slice la ls.length lc, .slice sa ss.length sc] 26)) W → (W.cell? ⟨w.heap.size, 0, none⟩ = some (.int .i64 tm) ∧ W.cell? ⟨w.heap.size, 1, none⟩ = some (.int .i64 nx) ∧ W.cell? ⟨w.heap.size, 2, none⟩ = some (.slice la ls.length lc) ∧ W.cell? ⟨w.heap.size, 3, none⟩ = some (.slice sa ss.length sc)) ∧ RowL W (.slice la ls.length lc) ls ∧ RowS W (.slice sa ss.length sc) ss ∧ w.heap.size < W.heap.size ∧ Below w.heap.size w W) := fun W hW => by
  have h1 := (hW.block w.heap.size (by simp)).trans (heap_alloc_new w _)
  exact ⟨⟨(blk_cell h1 0 rfl).1, (blk_cell h1 1 rfl).1, (blk_cell h1 2 rfl).1, (blk_cell h1 3 rfl).1⟩, (hl.below (bel_new _ _)).below hW, (hs.below (bel_new _ _)).below hW, (Array.getElem?_eq_some_iff.1 h1).1, (bel_new w _).trans (hW.mono (by simp))⟩
 have HOK : Hid (∀ W, RowL W (.slice la ls.length lc) ls → RowS W (.slice sa ss.length sc) ss → Calls Tryd.prog 29 #[.agg #[.int .i64 tm, .int .i64 nx, .slice la ls.length lc, .slice sa ss.length sc]] W fun e w' => e = .returned (.bool (bOf (TOK ⟨tm, nx, ls, ss⟩))) ∧ Below W.heap.size W w') := fun W h1 h2 => specTableOK_any tm nx _ _ ls ss W h1 h2 hw hy1 hy2
 clear hl hs hw
 unfold tabV
 cases htk : bOf (TOK ⟨tm, nx, ls, ss⟩) with
 | false =>
   have HC : Hid (tbCode tm nx ls ss = 1 ∧ tbOut tm nx ls ss = []) := ⟨by unfold tbCode; rw [htk]; rfl, by unfold tbOut; rw [htk]; rfl⟩
   rw [htk] at HOK
   clear htk
   go_enter Tryd.func7, Tryd.ntmps7
   go_upto_region 1 with fail
   generalize w.alloc (.cells #[.int .i64 tm, .int .i64 nx, .slice la ls.length lc, .slice sa ss.length sc] 26) = wb at HX ⊢
   obtain ⟨⟨x0, x1, x2, x3⟩, r1, r2, _, rb⟩ := HX.out wb (Below.refl _ _)
   have HR : Hid (RowL wb (.slice la ls.length lc) ls ∧ RowS wb (.slice sa ss.length sc) ss ∧ Below w.heap.size w wb) := ⟨r1, r2, rb⟩
   clear r1 r2 rb
   go_wp2_with fail
   refine (HOK.out _ HR.out.1 HR.out.2.1).mono ?_
   rintro e w1 ⟨rfl, b1⟩
   have HB1 : Hid (Below w.heap.size w w1) := HR.out.2.2.trans (b1.mono HR.out.2.2.size)
   clear b1
   go_wp2_with fail
   go_ret2
   exact ⟨_, ret_tup HC.out.1.symm, by rw [HC.out.2]; exact own_lit _ w1 _ [] 0 rfl HB1.out.size (by decide), HB1.out.trans ((bel_new w1 _).mono HB1.out.size)⟩
 | true =>
   have HC : Hid (tbCode tm nx ls ss = 0 ∧ tbOut tm nx ls ss = tabBs tm nx ls ss) := ⟨by unfold tbCode; rw [htk]; rfl, by unfold tbOut; rw [htk]; rfl⟩
   have HBD : Hid (Bnd ls ss) := tok_bnd (tok_true htk)
   rw [htk] at HOK
   clear htk
   go_enter Tryd.func7, Tryd.ntmps7
   go_upto_region 1 with fail
   generalize w.alloc (.cells #[.int .i64 tm, .int .i64 nx, .slice la ls.length lc, .slice sa ss.length sc] 26) = wb at HX ⊢
   obtain ⟨⟨x0, x1, x2, x3⟩, r1, r2, _, rb⟩ := HX.out wb (Below.refl _ _)
   have HR : Hid (RowL wb (.slice la ls.length lc) ls ∧ RowS wb (.slice sa ss.length sc) ss ∧ Below w.heap.size w wb) := ⟨r1, r2, rb⟩
   clear r1 r2 rb
   go_wp2_with fail
   refine (HOK.out _ HR.out.1 HR.out.2.1).mono ?_
   rintro e w1 ⟨rfl, b1⟩
   have B1 : Hid (Below wb.heap.size wb w1) := b1
   clear b1 x0 x1 x2 x3
   obtain ⟨⟨x0, x1, x2, x3⟩, r1, r2, _, rb⟩ := HX.out w1 B1.out
   have HR1 : Hid (RowL w1 (.slice la ls.length lc) ls ∧ RowS w1 (.slice sa ss.length sc) ss ∧ Below w.heap.size w w1) := ⟨r1, r2, rb⟩
   clear r1 r2 rb
   go_wp2_with fail
   refine (l05Bytes_any tm nx _ _ ls ss w1 HR1.out.1 HR1.out.2.1 HBD.out).mono ?_
   rintro e w2 ⟨v2, rfl, o2, b2⟩
   have HO : Hid (OwnB 5 w2 w.heap.size v2 (tabBs tm nx ls ss) ∧ Below w.heap.size w w2) := ⟨own_le o2 HR1.out.2.2.size, HR1.out.2.2.trans (b2.mono HR1.out.2.2.size)⟩
   clear o2 b2 x0 x1 x2 x3
   go_wp2_with fail
   go_ret2
   exact ⟨_, ret_tup HC.out.1.symm, by rw [HC.out.2]; exact HO.out.1, HO.out.2⟩
end Go.Proofs.YtakfniknkejgpaaDoor.Ub

/- A right table's bytes: the specification. -/
namespace Go.Proofs.YtakfniknkejgpaaDoor.Ht
open Go.RowKit Go.Proofs.YtakfniknkejgpaaDoor.Sl Go.Proofs.YtakfniknkejgpaaDoor.By Go.Proofs.YtakfniknkejgpaaDoor.Ap Go.Proofs.YtakfniknkejgpaaDoor.Tb Go.Proofs.YtakfniknkejgpaaDoor.Tw Go.Proofs.YtakfniknkejgpaaDoor.Tp Go.Proofs.YtakfniknkejgpaaDoor.Pu Go.Proofs.YtakfniknkejgpaaDoor.Pt Go.Proofs.YtakfniknkejgpaaDoor.Rq
def tabB (t : Tab) : List Int := tabBs t.tm t.nx t.ls t.ss
theorem tab_len (t : Tab) (h : TOK t) : (tabB t).length ≤ 227 := by
 have hb := tok_bnd (tm := t.tm) (nx := t.nx) (ls := t.ls) (ss := t.ss) h
 obtain ⟨g1, g2, g3, g4⟩ := hb
 have l1 := lsBs_le t.ls (fun x hx => ⟨(g3 x hx).1, (g3 x hx).2.1⟩)
 have l2 := ssBs_len t.ss
 unfold tabB tabBs
 simp only [List.length_append, nums_length]
 omega
def tV (T : Tab) (u v : Value) : Value := .agg #[.int .i64 T.tm, .int .i64 T.nx, u, v]
theorem tok_hw {T : Tab} (h : TOK T) : (∀ x ∈ T.ls, x.n.size ≤ 1048576 ∧ x.ws.length ≤ 1048576) ∧ T.ls.length ≤ 1048576 ∧ T.ss.length ≤ 1048576 := by
 obtain ⟨g1, g2, g3, _⟩ := tok_bnd (tm := T.tm) (nx := T.nx) (ls := T.ls) (ss := T.ss) h
 exact ⟨fun x hx => ⟨by have := (g3 x hx).1; omega, by have := (g3 x hx).2.1; omega⟩, by omega, by omega⟩
theorem tb_ok {T : Tab} (h : TOK T) : tbOut T.tm T.nx T.ls T.ss = tabB T ∧ tbCode T.tm T.nx T.ls T.ss = 0 := by
 have e : bOf (TOK ⟨T.tm, T.nx, T.ls, T.ss⟩) = true := bOf_true h
 unfold tbOut tbCode
 rw [e]
 exact ⟨rfl, rfl⟩
theorem tabB_range (T : Tab) : ∀ z ∈ tabB T, 0 ≤ z ∧ z ≤ 255 := tabBs_range _ _ _ _
theorem specBytes_ok {T : Tab} (hT : TOK T) {u v : Value} {W : World} (h : RowL W u T.ls ∧ RowS W v T.ss) : Calls Tryd.prog 7 #[tV T u v] W fun e w' => ∃ x, e = .returned (.tuple #[x, .int .i64 0]) ∧ RowB w' x (tabB T) ∧ Below W.heap.size W w' := by
 obtain ⟨a1, a2, a3⟩ := tok_hw hT
 refine (Ub.specTableBytes_any T.tm T.nx u v T.ls T.ss W h.1 h.2 a1 a2 a3).mono ?_
 rintro e w' ⟨x, rfl, o, b⟩
 rw [(tb_ok hT).1] at o
 exact ⟨x, by rw [(tb_ok hT).2], own_rowB o (tabB_range T), b⟩
end Go.Proofs.YtakfniknkejgpaaDoor.Ht

/- Right pieces: impl.piecesFault, the specification's l09OK. -/
namespace Go.Proofs.YtakfniknkejgpaaDoor.Pf
open Go.RowKit Go.Proofs.YtakfniknkejgpaaDoor.Sl Go.Proofs.YtakfniknkejgpaaDoor.By Go.Proofs.YtakfniknkejgpaaDoor.Ap Go.Proofs.YtakfniknkejgpaaDoor.Tx

def inP (n a b : Int) : Bool := decide (a ≤ n) && decide (n ≤ b)
theorem inP_yes {n a b : Int} (h1 : a ≤ n) (h2 : n ≤ b) : inP n a b = true := by unfold inP; rw [decide_eq_true h1, decide_eq_true h2]; rfl
theorem inP_no {n a b : Int} (h : ¬ (a ≤ n ∧ n ≤ b)) : inP n a b = false := by
 unfold inP
 by_cases h1 : a ≤ n
 ·rw [decide_eq_false (show ¬ n ≤ b from fun h2 => h ⟨h1, h2⟩), Bool.and_false]
 ·rw [decide_eq_false h1, Bool.false_and]
theorem retB {a b : Bool} (h : a = b) : Ending.returned (.bool a) = .returned (.bool b) := by rw [h]
theorem retI {a b : Int} (h : a = b) : Ending.returned (.int .i64 a) = .returned (.int .i64 b) := by rw [h]
theorem within_any (n a b : Int) (w : World) : Calls Tryd.prog 43 #[.int .i64 n, .int .i64 a, .int .i64 b] w fun e w' => e = .returned (.bool (inP n a b)) ∧ w = w' := by
 by_cases h1 : a ≤ n
 ·by_cases h2 : n ≤ b
  ·have HE : Hid (inP n a b = true) := inP_yes h1 h2
   go_enter Tryd.func43, Tryd.ntmps43
   go_wp2
   go_ret
   exact ⟨retB HE.out.symm, rfl⟩
  ·have HE : Hid (inP n a b = false) := inP_no fun h => h2 h.2
   go_enter Tryd.func43, Tryd.ntmps43
   go_wp2
   go_ret
   exact ⟨retB HE.out.symm, rfl⟩
 ·have HE : Hid (inP n a b = false) := inP_no fun h => h1 h.1
  go_enter Tryd.func43, Tryd.ntmps43
  go_wp2
  go_ret
  exact ⟨retB HE.out.symm, rfl⟩
theorem l01In_any (n a b : Int) (w : World) : Calls Tryd.prog 49 #[.int .i64 n, .int .i64 a, .int .i64 b] w fun e w' => e = .returned (.bool (inP n a b)) ∧ w = w' := by
 by_cases h1 : a ≤ n
 ·by_cases h2 : n ≤ b
  ·have HE : Hid (inP n a b = true) := inP_yes h1 h2
   go_enter Tryd.func49, Tryd.ntmps49
   go_wp2
   go_ret
   exact ⟨retB HE.out.symm, rfl⟩
  ·have HE : Hid (inP n a b = false) := inP_no fun h => h2 h.2
   go_enter Tryd.func49, Tryd.ntmps49
   go_wp2
   go_ret
   exact ⟨retB HE.out.symm, rfl⟩
 ·have HE : Hid (inP n a b = false) := inP_no fun h => h1 h.1
  go_enter Tryd.func49, Tryd.ntmps49
  go_wp2
  go_ret
  exact ⟨retB HE.out.symm, rfl⟩

def OneP (ts : List ByteArray) (i : Nat) : Prop := 1 ≤ (tnth ts i).size ∧ (tnth ts i).size ≤ 32 ∧ (i + 1 < ts.length → (tnth ts i).size = 32)
def PcP (ts : List ByteArray) : Prop := ts.length ≤ 64 ∧ ∀ i, i < ts.length → OneP ts i
noncomputable def pcB (ts : List ByteArray) : Bool := @decide (PcP ts) (Classical.propDecidable _)
theorem pcB_yes {ts : List ByteArray} (h : PcP ts) : pcB ts = true := by unfold pcB; exact @decide_eq_true _ (Classical.propDecidable _) h
theorem pcB_no {ts : List ByteArray} (h : ¬ PcP ts) : pcB ts = false := by unfold pcB; exact @decide_eq_false _ (Classical.propDecidable _) h
theorem pcB_get {ts : List ByteArray} (h : pcB ts = true) : PcP ts := by unfold pcB at h; exact @of_decide_eq_true _ (Classical.propDecidable _) h
noncomputable def pcC (ts : List ByteArray) : Int := if 4096 < ts.length then 2 else if pcB ts = true then 0 else 1
theorem pcC_ok {ts : List ByteArray} (h : PcP ts) : pcC ts = 0 := by
 unfold pcC
 rw [if_neg (by have := h.1; omega), if_pos (pcB_yes h)]
theorem pcC_get {ts : List ByteArray} (h : pcC ts = 0) : PcP ts := by
 unfold pcC at h
 split at h
 ·cases h
 ·split at h
  ·rename_i h2; exact pcB_get h2
  ·cases h
theorem pcC_bad {ts : List ByteArray} (h0 : ¬ 4096 < ts.length) (h : ¬ PcP ts) : pcC ts = 1 := by
 unfold pcC
 rw [if_neg h0, if_neg (by rw [pcB_no h]; decide)]
theorem PcP.small {ts : List ByteArray} (h : PcP ts) : ∀ t ∈ ts, t.size ≤ 32 := by
 intro t ht
 obtain ⟨i, hi, rfl⟩ := List.getElem_of_mem ht
 have := (h.2 i hi).2.1
 unfold tnth at this
 rw [List.getD_eq_getElem?_getD, List.getElem?_eq_getElem hi] at this
 exact this

set_option maxRecDepth 100000 in
set_option maxHeartbeats 800000 in
theorem piecesFault_any (v : Value) (ts : List ByteArray) (w : World) (h : RowT w v ts) (hl : ts.length ≤ maxLen) :
 Calls Tryd.prog 38 #[v] w fun e w' => e = .returned (.int .i64 (pcC ts)) ∧ w = w' := by
 obtain ⟨a, cap, rfl, h⟩ := h
 unfold maxLen at hl
 by_cases h1 : 4096 < ts.length
 ·have h1' : (4096 : Int) < (ts.length : Int) := by omega
  have HE : Hid (pcC ts = 2) := by show _ = _; unfold pcC; rw [if_pos h1]
  clear h
  go_enter Tryd.func38, Tryd.ntmps38
  go_wp2
  go_ret
  exact ⟨retI HE.out.symm, rfl⟩
 have h1' : ¬ (4096 : Int) < (ts.length : Int) := by omega
 by_cases h2 : 64 < ts.length
 ·have h2' : (64 : Int) < (ts.length : Int) := by omega
  have HE : Hid (pcC ts = 1) := pcC_bad h1 fun h => by have := h.1; omega
  clear h
  go_enter Tryd.func38, Tryd.ntmps38
  go_wp2
  go_ret
  exact ⟨retI HE.out.symm, rfl⟩
 have h2' : ¬ (64 : Int) < (ts.length : Int) := by omega
 have HB : Hid (¬ PcP ts → pcC ts = 1) := pcC_bad h1
 have HG : Hid ((∀ i, i < ts.length → OneP ts i) → pcC ts = 0) := fun hh => pcC_ok ⟨by omega, hh⟩
 clear h1 h2
 go_enter Tryd.func38, Tryd.ntmps38
 go_wp2_with fail
 go_loop [14] (fun i => ∃ k : Nat, k ≤ ts.length ∧ i = .int .i64 k ∧ Hid (∀ j, j < k → OneP ts j)) (fun i => ts.length - (intOf i).toNat)
 case atStart => exact ⟨0, by omega, rfl, fun j hj => absurd hj (by omega)⟩
 case round =>
  obtain ⟨k, hk, rfl, HI⟩ := hrel
  by_cases hlt : k < ts.length
  ·rcases h with h | ⟨b, off, rfl, hc, hb, hcell⟩
   ·exact absurd hlt (by rw [h]; simp)
   have c1 := hcell k hlt
   have hp1 : (k : Int) < (ts.length : Int) := by omega
   clear hcell
   by_cases hgood : OneP ts k
   ·have HJ : Hid (∀ j, j < k + 1 → OneP ts j) := fun j hj => by
     by_cases e : j = k
     ·subst e; exact hgood
     ·exact HI.out j (by omega)
    obtain ⟨g1, g2, g3⟩ := hgood
    by_cases hlast : k + 1 = ts.length
    ·have hq : ((k : Int) == (ts.length : Int) - 1) = true := by simp; omega
     have gi : inP ((tnth ts k).size : Int) 1 32 = true := inP_yes (by omega) (by omega)
     clear hlast g1 g2 g3
     generalize tnth ts k = t at c1 gi
     go_wp2_with (go_at_call 43; refine (within_any _ _ _ _).mono ?_; rintro e w1 ⟨rfl, rfl⟩; rw [gi])
     go_round
     case rel => exact ⟨k + 1, by omega, by go_num, HJ⟩
     case measure => simp [intOf]; omega
    ·have hq : ((k : Int) == (ts.length : Int) - 1) = false := by simp; omega
     have gi : inP ((tnth ts k).size : Int) 32 32 = true := inP_yes (by have := g3 (by omega); omega) (by omega)
     clear hlast g1 g2 g3
     generalize tnth ts k = t at c1 gi
     go_wp2_with (go_at_call 43; refine (within_any _ _ _ _).mono ?_; rintro e w1 ⟨rfl, rfl⟩; rw [gi])
     go_round
     case rel => exact ⟨k + 1, by omega, by go_num, HJ⟩
     case measure => simp [intOf]; omega
   ·have HE : Hid (pcC ts = 1) := HB.out fun hh => hgood (hh.2 k hlt)
    by_cases hlast : k + 1 = ts.length
    ·have hq : ((k : Int) == (ts.length : Int) - 1) = true := by simp; omega
     have gi : inP ((tnth ts k).size : Int) 1 32 = false := inP_no fun ⟨a1, a2⟩ => hgood ⟨by omega, by omega, fun hh => by omega⟩
     clear hlast hgood
     generalize tnth ts k = t at c1 gi
     go_wp2_with (go_at_call 43; refine (within_any _ _ _ _).mono ?_; rintro e w1 ⟨rfl, rfl⟩; rw [gi])
     go_ret
     exact ⟨retI HE.out.symm, rfl⟩
    ·have hq : ((k : Int) == (ts.length : Int) - 1) = false := by simp; omega
     have gi : inP ((tnth ts k).size : Int) 32 32 = false := inP_no fun ⟨a1, a2⟩ => hgood ⟨by omega, by omega, fun _ => by omega⟩
     clear hlast hgood
     generalize tnth ts k = t at c1 gi
     go_wp2_with (go_at_call 43; refine (within_any _ _ _ _).mono ?_; rintro e w1 ⟨rfl, rfl⟩; rw [gi])
     go_ret
     exact ⟨retI HE.out.symm, rfl⟩
  ·obtain rfl : k = ts.length := by omega
   have HE : Hid (pcC ts = 0) := HG.out HI.out
   go_wp2_with fail
   go_ret
   exact ⟨retI HE.out.symm, rfl⟩

set_option maxRecDepth 100000 in
set_option maxHeartbeats 800000 in
theorem l09OK_any (v : Value) (ts : List ByteArray) (w : World) (h : RowT w v ts) (hl : ts.length ≤ maxLen) :
 Calls Tryd.prog 41 #[v] w fun e w' => e = .returned (.bool (pcB ts)) ∧ w = w' := by
 obtain ⟨a, cap, rfl, h⟩ := h
 unfold maxLen at hl
 by_cases h2 : 64 < ts.length
 ·have h2' : (64 : Int) < (ts.length : Int) := by omega
  have HE : Hid (pcB ts = false) := pcB_no fun h => by have := h.1; omega
  clear h
  go_enter Tryd.func41, Tryd.ntmps41
  go_wp2
  go_ret
  exact ⟨retB HE.out.symm, rfl⟩
 have h2' : ¬ (64 : Int) < (ts.length : Int) := by omega
 have HG : Hid ((∀ i, i < ts.length → OneP ts i) → pcB ts = true) := fun hh => pcB_yes ⟨by omega, hh⟩
 clear h2
 go_enter Tryd.func41, Tryd.ntmps41
 go_wp2_with fail
 go_loop [3] (fun i => ∃ k : Nat, k ≤ ts.length ∧ i = .int .i64 k ∧ Hid (∀ j, j < k → OneP ts j)) (fun i => ts.length - (intOf i).toNat)
 case atStart => exact ⟨0, by omega, rfl, fun j hj => absurd hj (by omega)⟩
 case round =>
  obtain ⟨k, hk, rfl, HI⟩ := hrel
  by_cases hlt : k < ts.length
  ·rcases h with h | ⟨b, off, rfl, hc, hb, hcell⟩
   ·exact absurd hlt (by rw [h]; simp)
   have c1 := hcell k hlt
   have hp1 : (k : Int) < (ts.length : Int) := by omega
   clear hcell
   by_cases hin : 1 ≤ (tnth ts k).size ∧ (tnth ts k).size ≤ 32
   ·have gi : inP ((tnth ts k).size : Int) 1 32 = true := inP_yes (by omega) (by omega)
    by_cases hlast : k + 1 = ts.length
    ·have HJ : Hid (∀ j, j < k + 1 → OneP ts j) := fun j hj => by
      by_cases e : j = k
      ·subst e; exact ⟨hin.1, hin.2, fun hh => by omega⟩
      ·exact HI.out j (by omega)
     have hq : ¬ (k : Int) < (ts.length : Int) - 1 := by omega
     clear hlast hin
     generalize tnth ts k = t at c1 gi
     go_wp2_with (go_at_call 49; refine (l01In_any _ _ _ _).mono ?_; rintro e w1 ⟨rfl, rfl⟩; rw [gi])
     go_round
     case rel => exact ⟨k + 1, by omega, by go_num, HJ⟩
     case measure => simp [intOf]; omega
    ·have hq : (k : Int) < (ts.length : Int) - 1 := by omega
     by_cases h32 : (tnth ts k).size = 32
     ·have HJ : Hid (∀ j, j < k + 1 → OneP ts j) := fun j hj => by
       by_cases e : j = k
       ·subst e; exact ⟨hin.1, hin.2, fun _ => h32⟩
       ·exact HI.out j (by omega)
      have h32' : (((tnth ts k).size : Int) != 32) = false := by simp; omega
      clear hlast hin h32
      generalize tnth ts k = t at c1 gi h32'
      go_wp2_with (go_at_call 49; refine (l01In_any _ _ _ _).mono ?_; rintro e w1 ⟨rfl, rfl⟩; rw [gi])
      go_round
      case rel => exact ⟨k + 1, by omega, by go_num, HJ⟩
      case measure => simp [intOf]; omega
     ·have HE : Hid (pcB ts = false) := pcB_no fun hh => h32 ((hh.2 k hlt).2.2 (by omega))
      have h32' : (((tnth ts k).size : Int) != 32) = true := by simp; omega
      clear hlast hin h32
      generalize tnth ts k = t at c1 gi h32'
      go_wp2_with (go_at_call 49; refine (l01In_any _ _ _ _).mono ?_; rintro e w1 ⟨rfl, rfl⟩; rw [gi])
      go_ret
      exact ⟨retB HE.out.symm, rfl⟩
   ·have gi : inP ((tnth ts k).size : Int) 1 32 = false := inP_no fun ⟨a1, a2⟩ => hin ⟨by omega, by omega⟩
    have HE : Hid (pcB ts = false) := pcB_no fun hh => hin ⟨(hh.2 k hlt).1, (hh.2 k hlt).2.1⟩
    clear hin
    generalize tnth ts k = t at c1 gi
    go_wp2_with (go_at_call 49; refine (l01In_any _ _ _ _).mono ?_; rintro e w1 ⟨rfl, rfl⟩; rw [gi])
    go_ret
    exact ⟨retB HE.out.symm, rfl⟩
  ·obtain rfl : k = ts.length := by omega
   have HE : Hid (pcB ts = true) := HG.out HI.out
   go_wp2_with fail
   go_ret
   exact ⟨retB HE.out.symm, rfl⟩
end Go.Proofs.YtakfniknkejgpaaDoor.Pf
