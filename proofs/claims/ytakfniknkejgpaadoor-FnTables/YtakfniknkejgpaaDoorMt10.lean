/- Texts put together: Tr, Uv, Put. -/
import Derived.Test.YtakfniknkejgpaaDoorMt9
import Derived.Test.YtakfniknkejgpaaDoorMt2
import Derived.Test.YtakfniknkejgpaaDoorMt1
import Derived.Test.YtakfniknkejgpaaDoorRows
/- TableOK of the program. -/
namespace Go.Proofs.YtakfniknkejgpaaDoor.Tp
open Go.RowKit Go.Proofs.YtakfniknkejgpaaDoor.Sl Go.Proofs.YtakfniknkejgpaaDoor.Ap Go.Proofs.YtakfniknkejgpaaDoor.Tx Go.Proofs.YtakfniknkejgpaaDoor.Tb Go.Proofs.YtakfniknkejgpaaDoor.Tw Go.Proofs.YtakfniknkejgpaaDoor.Rq

theorem with_any (x a b : Int) (w : World) : Calls Tryd.prog 43 #[.int .i64 x, .int .i64 a, .int .i64 b] w fun e w' => e = .returned (.bool (inB x a b)) ∧ w = w' := (within_any x a b w).mono fun _ _ ⟨h1, h2⟩ => ⟨h1, h2.symm⟩
set_option maxRecDepth 100000 in
set_option maxHeartbeats 1600000 in
theorem implTableOK_any (tm nx : Int) (vl vs : Value) (ls : List Lk) (ss : List Sn) (w : World) (hl : RowL w vl ls) (hs : RowS w vs ss) (hw : ∀ x ∈ ls, x.n.size ≤ 1048576 ∧ x.ws.length ≤ 1048576) (hy1 : ls.length ≤ 1048576) (hy2 : ss.length ≤ 1048576) :
 Calls Tryd.prog 25 #[tabV tm nx vl vs] w fun e w' => e = .returned (.bool (bOf (TOK ⟨tm, nx, ls, ss⟩))) ∧ Below w.heap.size w w' := by
 obtain ⟨la, lc, rfl⟩ := RowG.slice hl
 obtain ⟨sa, sc, rfl⟩ := RowG.slice hs
 have HTK : Hid (TOK ⟨tm, nx, ls, ss⟩ ↔ (inB tm 0 1000000000 = true ∧ inB nx 1 1000000 = true ∧ ls.length ≤ 4 ∧ LsOK nx ls ∧ ss.length ≤ 6 ∧ SsOK ss)) := Iff.rfl
 have HWZ : Hid (∀ x ∈ ls, x.n.size ≤ 1048576 ∧ x.ws.length ≤ 1048576) := hw
 unfold tabV
 have HX : Hid (∀ W, Below (w.alloc (.cells #[.int .i64 tm, .int .i64 nx, .slice la ls.length lc, .slice sa ss.length sc] 26)).heap.size (w.alloc (.cells #[.int .i64 tm, .int .i64 nx, .slice la ls.length lc, .slice sa ss.length sc] 26)) W → (W.cell? ⟨w.heap.size, 0, none⟩ = some (.int .i64 tm) ∧ W.cell? ⟨w.heap.size, 1, none⟩ = some (.int .i64 nx) ∧ W.cell? ⟨w.heap.size, 2, none⟩ = some (.slice la ls.length lc) ∧ W.cell? ⟨w.heap.size, 3, none⟩ = some (.slice sa ss.length sc)) ∧ RowL W (.slice la ls.length lc) ls ∧ RowS W (.slice sa ss.length sc) ss ∧ Below w.heap.size w W) := fun W hW => by
  have h1 := (hW.block w.heap.size (by simp)).trans (heap_alloc_new w _)
  exact ⟨⟨(blk_cell h1 0 rfl).1, (blk_cell h1 1 rfl).1, (blk_cell h1 2 rfl).1, (blk_cell h1 3 rfl).1⟩, (hl.below (bel_new _ _)).below hW, (hs.below (bel_new _ _)).below hW, (bel_new w _).trans (hW.mono (by simp))⟩
 clear hl hs hw
 generalize HTO : bOf (TOK ⟨tm, nx, ls, ss⟩) = tok
 have HT : Hid (bOf (TOK ⟨tm, nx, ls, ss⟩) = tok) := HTO
 clear HTO
 go_enter Tryd.func25, Tryd.ntmps25
 go_upto_region 1 with fail
 generalize w.alloc (.cells #[.int .i64 tm, .int .i64 nx, .slice la ls.length lc, .slice sa ss.length sc] 26) = wb at HX ⊢
 obtain ⟨⟨x0, x1, x2, x3⟩, _, _, hb0⟩ := HX.out wb (Below.refl _ _)
 have HB0 : Hid (Below w.heap.size w wb) := hb0
 clear hb0
 cases h1 : inB tm 0 1000000000 with
 | false =>
   have HF : Hid (tok = false) := HT.out.symm.trans (bOf_false fun h => by have := (HTK.out.1 h).1; rw [h1] at this; cases this)
   go_wp2_with (go_at_call 43; refine (with_any _ _ _ _).mono ?_; rintro e w1 ⟨rfl, rfl⟩; rw [h1])
   go_ret
   exact ⟨ret_bool HF.out.symm, HB0.out⟩
 | true =>
 cases h2 : inB nx 1 1000000 with
 | false =>
   have HF : Hid (tok = false) := HT.out.symm.trans (bOf_false fun h => by have := (HTK.out.1 h).2.1; rw [h2] at this; cases this)
   go_wp2_with (go_at_call 43; refine (with_any _ _ _ _).mono ?_; rintro e w1 ⟨rfl, rfl⟩; first | rw [h1] | rw [h2])
   go_ret
   exact ⟨ret_bool HF.out.symm, HB0.out⟩
 | true =>
 by_cases h3 : ls.length ≤ 4
 ·have h3' : (ls.length : Int) ≤ 4 := by omega
  have hnx := inB_le h2
  have HLO : Hid (Calls Tryd.prog 54 #[.slice la ls.length lc, .int .i64 nx] wb fun e w' => e = .returned (.bool (bOf (LsOK nx ls))) ∧ w'.cell? ⟨w.heap.size, 3, none⟩ = some (.slice sa ss.length sc) ∧ Hid (RowS w' (.slice sa ss.length sc) ss ∧ Below w.heap.size w w')) := (locksOK_any _ ls nx wb (HX.out wb (Below.refl _ _)).2.1 hy1 HWZ.out hnx.1 hnx.2).mono fun e w' ⟨he, hb⟩ => by
   obtain ⟨⟨_, _, _, q3⟩, _, q5, q6⟩ := HX.out w' hb
   exact ⟨he, q3, q5, q6⟩
  cases h4 : bOf (LsOK nx ls) with
  | false =>
    have HF : Hid (tok = false) := HT.out.symm.trans (bOf_false fun h => by rw [bOf_true (HTK.out.1 h).2.2.2.1] at h4; cases h4)
    rw [h4] at HLO
    clear h4
    go_wp2_with (first | (go_at_call 43; refine (with_any _ _ _ _).mono ?_; rintro e w1 ⟨rfl, rfl⟩; first | rw [h1] | rw [h2]) | (go_at_call 54; refine HLO.out.mono ?_; rintro e w2 ⟨rfl, q3, Q2⟩; clear x0 x1 x2 x3))
    go_ret
    exact ⟨ret_bool HF.out.symm, Q2.out.2⟩
  | true =>
    have HLS : Hid (LsOK nx ls) := (show LsOK nx ls from Classical.byContradiction fun hn => by rw [bOf_false hn] at h4; cases h4)
    rw [h4] at HLO
    clear h4
    by_cases h5 : ss.length ≤ 6
    ·have h5' : (ss.length : Int) ≤ 6 := by omega
     have HF : Hid (tok = bOf (SsOK ss)) := by
      show _ = _
      rw [← HT.out]
      by_cases hh : SsOK ss
      ·rw [bOf_true hh, bOf_true (HTK.out.2 ⟨h1, h2, h3, HLS.out, h5, hh⟩)]
      ·rw [bOf_false hh, bOf_false fun h => hh (HTK.out.1 h).2.2.2.2.2]
     have HSO : Hid (∀ w2, RowS w2 (.slice sa ss.length sc) ss → Below w.heap.size w w2 → Calls Tryd.prog 55 #[.slice sa ss.length sc] w2 fun e w' => e = .returned (.bool tok) ∧ Below w.heap.size w w') := fun w2 hr hb => (seensOK_any _ ss w2 hr hy2).mono fun e w' ⟨he, hb2⟩ => ⟨by rw [HF.out]; exact he, hb.trans (hb2.mono hb.size)⟩
     go_wp2_with (first | (go_at_call 43; refine (with_any _ _ _ _).mono ?_; rintro e w1 ⟨rfl, rfl⟩; first | rw [h1] | rw [h2]) | (go_at_call 54; refine HLO.out.mono ?_; rintro e w2 ⟨rfl, q3, Q2⟩; clear x0 x1 x2 x3) | (go_at_call 55; refine (HSO.out _ Q2.out.1 Q2.out.2).mono ?_; rintro e w3 ⟨rfl, g3⟩))
     go_ret
     exact ⟨rfl, g3⟩
    ·have h5' : decide ((ss.length : Int) ≤ 6) = false := decide_eq_false (by omega)
     have h5'' : ¬ (ss.length : Int) ≤ 6 := by omega
     have HF : Hid (tok = false) := HT.out.symm.trans (bOf_false fun h => h5 (HTK.out.1 h).2.2.2.2.1)
     go_wp2_with (first | (go_at_call 43; refine (with_any _ _ _ _).mono ?_; rintro e w1 ⟨rfl, rfl⟩; first | rw [h1] | rw [h2]) | (go_at_call 54; refine HLO.out.mono ?_; rintro e w2 ⟨rfl, q3, Q2⟩; clear x0 x1 x2 x3))
     go_ret
     exact ⟨ret_bool HF.out.symm, Q2.out.2⟩
 ·have h3' : decide ((ls.length : Int) ≤ 4) = false := decide_eq_false (by omega)
  have h3'' : ¬ (ls.length : Int) ≤ 4 := by omega
  have HF : Hid (tok = false) := HT.out.symm.trans (bOf_false fun h => h3 (HTK.out.1 h).2.2.1)
  go_wp2_with (go_at_call 43; refine (with_any _ _ _ _).mono ?_; rintro e w1 ⟨rfl, rfl⟩; first | rw [h1] | rw [h2])
  go_ret
  exact ⟨ret_bool HF.out.symm, HB0.out⟩
end Go.Proofs.YtakfniknkejgpaaDoor.Tp

/- impl.ReadTable: what it answers. -/
namespace Go.Proofs.YtakfniknkejgpaaDoor.Ur
open Go.RowKit Go.Proofs.YtakfniknkejgpaaDoor.Sl Go.Proofs.YtakfniknkejgpaaDoor.By Go.Proofs.YtakfniknkejgpaaDoor.Ap Go.Proofs.YtakfniknkejgpaaDoor.Rr Go.Proofs.YtakfniknkejgpaaDoor.Tb Go.Proofs.YtakfniknkejgpaaDoor.Tw
open Go.Proofs.YtakfniknkejgpaaDoor.Wa (OwnW OwnS)
open Go.Proofs.YtakfniknkejgpaaDoor.Lo (LkA uV OwnL)
open Go.Proofs.YtakfniknkejgpaaDoor.Tp (bOf TOK implTableOK_any)

theorem Mem.rows {W : World} {B : Nat} {v2 v3 : Value} {ms : List LkA} {ss : List Sn} (h : Mem W B v2 v3 ms ss) : RowL W v2 (ms.map (·.1)) ∧ RowS W v3 ss := ⟨h.ol.row fun m hm => (h.ow m hm).row, h.os.row⟩
theorem Mem.nil (W : World) (B : Nat) : Mem W B (.slice none 0 0) (.slice none 0 0) [] [] := ⟨World.ownsRow_nil _ _ _ _, fun m hm => (by cases hm), List.Pairwise.nil, OwnS.nil _ _⟩
theorem Mem.mono {W : World} {B B' : Nat} {v2 v3 : Value} {ms : List LkA} {ss : List Sn} (h : Mem W B v2 v3 ms ss) (hb : B' ≤ B) : Mem W B' v2 v3 ms ss := ⟨h.ol.mono hb, fun m hm => (h.ow m hm).mono hb, h.di, h.os.mono hb⟩
theorem Mem.below {W W' : World} {B : Nat} {v2 v3 : Value} {ms : List LkA} {ss : List Sn} (h : Mem W B v2 v3 ms ss) (hb : Below W.heap.size W W') : Mem W' B v2 v3 ms ss := h.kept fun g _ hg => hb.block g hg
theorem txt_small (xs : List Int) (hr : ∀ x ∈ xs, 0 ≤ x ∧ x ≤ 255) : (txtB 1 xs).size ≤ 65535 := by
 unfold txtB
 rw [strOfNums_size]
 exact Nat.le_trans (tkB_len _ _) (txtN_le 1 xs (by decide) hr).1
theorem cnt_le {xs : List Int} (hr : ∀ x ∈ xs, 0 ≤ x ∧ x ≤ 255) : cnt xs ≤ 255 := by
 have nb := nv_range (n := 1) hr
 simp only [show ((256 : Int) ^ 1) = 256 from rfl] at nb
 unfold cnt; omega
theorem lkO_small (xs : List Int) (hr : ∀ x ∈ xs, 0 ≤ x ∧ x ≤ 255) : (lkO xs).n.size ≤ 1048576 ∧ (lkO xs).ws.length ≤ 1048576 := by
 have h1 : (lkO xs).n = txtB 1 xs := by simp only [lkO]
 have h2 : (lkO xs).ws = itL wtR wtO (cnt (lk3 xs)) (tkR 1 (lk3 xs)) := by simp only [lkO]
 have h3 := txt_small xs hr
 refine ⟨by rw [h1]; omega, ?_⟩
 rw [h2]
 rw [itL_len]
 have := cnt_le ((less_lk3 xs).2 hr)
 omega
theorem itL_all {α : Type} {f : List Int → List Int} {o : List Int → α} {Q : α → Prop} (hf : Less f) (ho : ∀ xs : List Int, (∀ x ∈ xs, 0 ≤ x ∧ x ≤ 255) → Q (o xs)) (xs : List Int) (hr : ∀ x ∈ xs, 0 ≤ x ∧ x ≤ 255) : ∀ k, ∀ y ∈ itL f o k xs, Q y
 | 0, y, hy => by cases hy
 | k + 1, y, hy => by
   rw [itL_succ] at hy
   rcases List.mem_append.1 hy with hy | hy
   ·exact itL_all hf ho xs hr k y hy
   ·rw [List.mem_singleton.1 hy]; exact ho _ ((less_it hf k xs).2 hr)
theorem less_2 : Less tb2 := (less_tk 3).comp (less_tk 4)
theorem less_A : Less tbA := (less_tk 1).comp less_2
theorem less_B : Less tbB := fun xs => ((less_it less_lk (cnt (tb2 xs))).comp less_A) xs
theorem tbO_small (xs : List Int) (hr : ∀ x ∈ xs, 0 ≤ x ∧ x ≤ 255) : (tbO xs).ls.length ≤ 255 ∧ (tbO xs).ss.length ≤ 255 ∧ ∀ x ∈ (tbO xs).ls, x.n.size ≤ 1048576 ∧ x.ws.length ≤ 1048576 := by
 refine ⟨?_, ?_, ?_⟩
 ·have e : (tbO xs).ls = itL lkR lkO (cnt (tb2 xs)) (tbA xs) := by simp only [tbO]
  rw [e, itL_len]; exact cnt_le ((less_2 xs).2 hr)
 ·have e : (tbO xs).ss = itL snR snO (cnt (tbB xs)) (tbC xs) := by simp only [tbO]
  rw [e, itL_len]; exact cnt_le ((less_B xs).2 hr)
 ·have e : (tbO xs).ls = itL lkR lkO (cnt (tb2 xs)) (tbA xs) := by simp only [tbO]
  rw [e]
  exact itL_all (Q := fun x : Lk => x.n.size ≤ 1048576 ∧ x.ws.length ≤ 1048576) less_lk lkO_small (tbA xs) ((less_A xs).2 hr) _
noncomputable def rtOK (xs : List Int) : Bool := !tbS xs false && ((tbR xs).isEmpty && bOf (TOK (tbO xs)))
noncomputable def rtC (xs : List Int) : Int := if 65536 < xs.length then 2 else if rtOK xs then 0 else 3
def zTab : Tab := ⟨0, 0, [], []⟩
noncomputable def rtT (xs : List Int) : Tab := if rtC xs = 0 then tbO xs else zTab
theorem rt_long {xs : List Int} (h : 65536 < xs.length) : rtC xs = 2 ∧ rtT xs = zTab := by
 have e : rtC xs = 2 := if_pos h
 exact ⟨e, by unfold rtT; rw [e]; rfl⟩
theorem rt_bad {xs : List Int} (h : ¬ 65536 < xs.length) (hb : rtOK xs = false) : rtC xs = 3 ∧ rtT xs = zTab := by
 have e : rtC xs = 3 := by unfold rtC; rw [if_neg h, hb]; rfl
 exact ⟨e, by unfold rtT; rw [e]; rfl⟩
theorem rt_ok {xs : List Int} (h : ¬ 65536 < xs.length) (hb : rtOK xs = true) : rtC xs = 0 ∧ rtT xs = tbO xs := by
 have e : rtC xs = 0 := by unfold rtC; rw [if_neg h, hb]; rfl
 exact ⟨e, by unfold rtT; rw [e]; rfl⟩
structure Jt (w W : World) (x : Nat) (tm nx : Int) (vl vs : Value) (ms : List LkA) (ss : List Sn) : Prop where
 a : W.heap[w.heap.size]? = some (.cells #[.int .i64 0, .int .i64 0, .slice none 0 0, .slice none 0 0] 26 (0, 0))
 b : W.heap[w.heap.size + 1]? = some (.cells #[.int .i64 0, .int .i64 0, .slice none 0 0, .slice none 0 0] 26 (0, 0))
 x : W.heap[x]? = some (.cells #[.int .i64 tm, .int .i64 nx, vl, vs] 26 (0, 0))
 g : Below w.heap.size w W
 m : Mem W (w.heap.size + 3) vl vs ms ss
theorem Jt.below {w W W' : World} {x : Nat} {tm nx : Int} {vl vs : Value} {ms : List LkA} {ss : List Sn} (h : Jt w W x tm nx vl vs ms ss) (hb : Below W.heap.size W W') : Jt w W' x tm nx vl vs ms ss :=
 ⟨(hb.block _ (Array.getElem?_eq_some_iff.1 h.a).1).trans h.a, (hb.block _ (Array.getElem?_eq_some_iff.1 h.b).1).trans h.b, (hb.block _ (Array.getElem?_eq_some_iff.1 h.x).1).trans h.x, h.g.trans (hb.mono h.g.size), h.m.below hb⟩
theorem rj_start (w : World) (v : Value) (xs : List Int) (h : RowB w v xs) : Rdr w.heap.size (((w.alloc (.cells #[.int .i64 0, .int .i64 0, .slice none 0 0, .slice none 0 0] 26)).alloc (.cells #[.int .i64 0, .int .i64 0, .slice none 0 0, .slice none 0 0] 26)).alloc (.cells #[v, .bool false] 98)) (w.heap.size + 2) xs false := by
 refine ⟨_, ?_, (RowU.of h).kept (fun k hk => ?_)⟩
 ·have := blk_new ((w.alloc (.cells #[.int .i64 0, .int .i64 0, .slice none 0 0, .slice none 0 0] 26)).alloc (.cells #[.int .i64 0, .int .i64 0, .slice none 0 0, .slice none 0 0] 26)) #[v, .bool false] 98
  rw [size_new, size_new] at this
  exact this
 ·rw [Below.heap_alloc _ _ _ (by simp; omega), Below.heap_alloc _ _ _ (by simp; omega), Below.heap_alloc _ _ _ hk]
set_option maxRecDepth 100000 in
set_option maxHeartbeats 1600000 in
theorem readJust_any (v : Value) (xs : List Int) (w : World) (h : RowB w v xs) :
 Calls Tryd.prog 31 #[v, .func (Fn.func 32) #[] #[], .func (Fn.func 25) #[] #[]] w fun e w' => ∃ u2 u3 ms, e = .returned (.tuple #[tabV (rtT xs).tm (rtT xs).nx u2 u3, .int .i64 (rtC xs)]) ∧ (ms.map (·.1) = (rtT xs).ls ∧ Mem w' w.heap.size u2 u3 ms (rtT xs).ss) ∧ Below w.heap.size w w' := by
 have hr : ∀ x ∈ xs, 0 ≤ x ∧ x ≤ 255 := by obtain ⟨_, _, _, _, h⟩ := h; exact h
 have H0 : Hid (∀ a cap, v = .slice a xs.length cap → Rdr w.heap.size (((w.alloc (.cells #[.int .i64 0, .int .i64 0, .slice none 0 0, .slice none 0 0] 26)).alloc (.cells #[.int .i64 0, .int .i64 0, .slice none 0 0, .slice none 0 0] 26)).alloc (.cells #[.slice a xs.length cap, .bool false] 98)) (w.heap.size + 2) xs false) := fun a cap e => by rw [← e]; exact rj_start w v xs h
 obtain ⟨a, cap, rfl, _⟩ := h
 by_cases hb : 65536 < xs.length
 ·have hb' : (65536 : Int) < (xs.length : Int) := by omega
  have HN : Hid (rtC xs = 2 ∧ rtT xs = zTab) := rt_long hb
  rw [HN.out.1, HN.out.2]
  clear H0 hr
  go_enter Tryd.func31, Tryd.ntmps31
  go_wp2_with fail
  exact bodyPost_ret (v := .tuple #[.agg #[.int .i64 0, .int .i64 0, .slice none 0 0, .slice none 0 0], .int .i64 2]) (by simp [results, Tryd.results31, go_sem]) rfl ⟨.slice none 0 0, .slice none 0 0, [], rfl, ⟨rfl, Mem.nil _ _⟩, ((Below.refl _ _).alloc (Nat.le_refl _) _).alloc (by simp) _⟩
 have hb' : ¬ (65536 : Int) < (xs.length : Int) := by omega
 have HTK : Hid (Calls Tryd.prog 32 #[.pointer (some ⟨w.heap.size + 2, 0, none⟩)] (((w.alloc (.cells #[.int .i64 0, .int .i64 0, .slice none 0 0, .slice none 0 0] 26)).alloc (.cells #[.int .i64 0, .int .i64 0, .slice none 0 0, .slice none 0 0] 26)).alloc (.cells #[.slice a xs.length cap, .bool false] 98)) fun e w' => ∃ u2 u3 ms, e = .returned (tabV (tbO xs).tm (tbO xs).nx u2 u3) ∧ (ms.map (·.1) = (tbO xs).ls ∧ Mem w' (w.heap.size + 3) u2 u3 ms (tbO xs).ss) ∧ Rdr w.heap.size w' (w.heap.size + 2) (tbR xs) (tbS xs false) ∧ (w'.heap[w.heap.size]? = some (.cells #[.int .i64 0, .int .i64 0, .slice none 0 0, .slice none 0 0] 26 (0, 0)) ∧ w'.heap[w.heap.size + 1]? = some (.cells #[.int .i64 0, .int .i64 0, .slice none 0 0, .slice none 0 0] 26 (0, 0)) ∧ Below w.heap.size w w' ∧ w.heap.size + 3 ≤ w'.heap.size)) := by
  have hs3 : (((w.alloc (.cells #[.int .i64 0, .int .i64 0, .slice none 0 0, .slice none 0 0] 26)).alloc (.cells #[.int .i64 0, .int .i64 0, .slice none 0 0, .slice none 0 0] 26)).alloc (.cells #[.slice a xs.length cap, .bool false] 98)).heap.size = w.heap.size + 3 := by rw [size_new, size_new, size_new]
  refine (takeTable_any (w.heap.size + 2) w.heap.size xs false _ (H0.out a cap rfl) (by omega) (by omega) hr).mono ?_
  rintro e w' ⟨u2, u3, ms, rfl, hm, r, g⟩
  rw [hs3] at hm
  refine ⟨u2, u3, ms, rfl, hm, r, blk_kept ?_ g (by omega), blk_kept ?_ g (by omega), ?_, by have := g.size; omega⟩
  ·exact ((Below.heap_alloc _ _ _ (by simp; omega)).trans (Below.heap_alloc _ _ _ (by simp))).trans (blk_new _ _ _)
  ·have := blk_new (w.alloc (.cells #[.int .i64 0, .int .i64 0, .slice none 0 0, .slice none 0 0] 26)) #[.int .i64 0, .int .i64 0, .slice none 0 0, .slice none 0 0] 26
   rw [size_new] at this
   exact (Below.heap_alloc _ _ _ (by simp)).trans this
  ·have G0 : Below w.heap.size w (((w.alloc (.cells #[.int .i64 0, .int .i64 0, .slice none 0 0, .slice none 0 0] 26)).alloc (.cells #[.int .i64 0, .int .i64 0, .slice none 0 0, .slice none 0 0] 26)).alloc (.cells #[.slice a xs.length cap, .bool false] 98)) := (((Below.refl _ _).alloc (Nat.le_refl _) _).alloc (by simp) _).alloc (by simp; omega) _
   exact ⟨g.os.trans G0.os, g.tape.trans G0.tape, g.output.trans G0.output, Nat.le_trans G0.size g.size, fun k hk => (below_kept g (by omega) (by rw [hs3]; omega) k hk).trans (G0.block k hk)⟩
 have HTS := tbO_small xs hr
 have HOK : Hid (rtOK xs = (!tbS xs false && ((tbR xs).isEmpty && bOf (TOK (tbO xs))))) := rfl
 have HBD : Hid (rtOK xs = false → rtC xs = 3 ∧ rtT xs = zTab) := rt_bad hb
 have HGD : Hid (rtOK xs = true → rtC xs = 0 ∧ rtT xs = tbO xs) := rt_ok hb
 obtain ⟨⟨tm, nx, ls, ss⟩, HT⟩ : ∃ t, Hid (tbO xs = t) := ⟨_, rfl⟩
 obtain ⟨rs, HRS⟩ : ∃ rs, Hid (tbR xs = rs) := ⟨_, rfl⟩
 obtain ⟨sb, HSB⟩ : ∃ sb, Hid (tbS xs false = sb) := ⟨_, rfl⟩
 rw [HT.out, HRS.out, HSB.out] at HTK HOK
 rw [HT.out] at HTS HGD
 dsimp only at HTK HTS
 have HTS' : Hid (∀ _ : Unit, ls.length ≤ 255 ∧ ss.length ≤ 255 ∧ ∀ x ∈ ls, x.n.size ≤ 1048576 ∧ x.ws.length ≤ 1048576) := fun _ => HTS
 clear H0 hr HTS HT HRS HSB hb
 go_enter Tryd.func31, Tryd.ntmps31
 go_wp2_with fail
 rw [show w.heap.size + 1 + 1 = w.heap.size + 2 from rfl]
 refine HTK.out.mono ?_
 rintro e w4 ⟨u2, u3, ms, rfl, hm, r4, ha, hbb, g4, s4⟩
 obtain ⟨la, lc, rfl⟩ := hm.2.ol.slice
 obtain ⟨sa, sc, rfl⟩ := hm.2.os.slice
 obtain ⟨v4, p4, a', cap', rfl, _, _, _⟩ := r4
 have HML : Hid (ms.map (·.1) = ls) := hm.1
 have J0 : Hid (Jt w (w4.alloc (.cells #[.int .i64 tm, .int .i64 nx, .slice la ms.length lc, .slice sa ss.length sc] 26)) w4.heap.size tm nx (.slice la ms.length lc) (.slice sa ss.length sc) ms ss) :=
  ⟨(Below.heap_alloc _ _ _ (by omega)).trans ha, (Below.heap_alloc _ _ _ (by omega)).trans hbb, heap_alloc_new _ _, g4.alloc g4.size _, hm.2.below (by exact (Below.refl _ _).alloc (Nat.le_refl _) _)⟩
 have P5 := (Below.heap_alloc w4 (.cells #[.int .i64 tm, .int .i64 nx, .slice la ms.length lc, .slice sa ss.length sc] 26) _ (show w.heap.size + 2 < w4.heap.size by omega)).trans p4
 clear HTK hm ha hbb g4 p4
 unfold tabV
 go_upto_region 6 with fail
 generalize (w4.alloc (.cells #[.int .i64 tm, .int .i64 nx, .slice la ms.length lc, .slice sa ss.length sc] 26)) = w5 at J0 P5 ⊢
 generalize w4.heap.size = x5 at J0 ⊢
 obtain ⟨p0, _⟩ := blk_cell P5 0 (x := .slice a' rs.length cap') rfl
 obtain ⟨p1, _⟩ := blk_cell P5 1 (x := .bool sb) rfl
 obtain ⟨ln, HLN⟩ : ∃ ln, Hid (ms.length = ln) := ⟨_, rfl⟩
 obtain ⟨sn, HSN⟩ : ∃ sn, Hid (ss.length = sn) := ⟨_, rfl⟩
 rw [HLN.out, HSN.out] at J0 ⊢
 clear P5
 rcases Bool.eq_false_or_eq_true sb with hsb | hsb
 case inl =>
  rw [hsb] at p1
  have HN : Hid (rtC xs = 3 ∧ rtT xs = zTab) := HBD.out (by rw [HOK.out, hsb]; rfl)
  have J := J0
  clear J0
  have y0 := (blk_cell J.out.b 0 (x := .int .i64 0) rfl).1
  obtain ⟨zc0, zf0⟩ := blk_cell J.out.a 0 (x := .int .i64 0) rfl
  have y1 := (blk_cell J.out.b 1 (x := .int .i64 0) rfl).1
  obtain ⟨zc1, zf1⟩ := blk_cell J.out.a 1 (x := .int .i64 0) rfl
  have y2 := (blk_cell J.out.b 2 (x := .slice none 0 0) rfl).1
  obtain ⟨zc2, zf2⟩ := blk_cell J.out.a 2 (x := .slice none 0 0) rfl
  have y3 := (blk_cell J.out.b 3 (x := .slice none 0 0) rfl).1
  obtain ⟨zc3, zf3⟩ := blk_cell J.out.a 3 (x := .slice none 0 0) rfl
  have AF : Hid (((((w5.setCell ⟨w.heap.size, 0, none⟩ (.int .i64 0)).setCell ⟨w.heap.size, 1, none⟩ (.int .i64 0)).setCell ⟨w.heap.size, 2, none⟩ (.slice none 0 0)).setCell ⟨w.heap.size, 3, none⟩ (.slice none 0 0)).heap[w.heap.size]? = some (.cells #[.int .i64 0, .int .i64 0, .slice none 0 0, .slice none 0 0] 26 (0, 0)) ∧ Below w.heap.size w ((((w5.setCell ⟨w.heap.size, 0, none⟩ (.int .i64 0)).setCell ⟨w.heap.size, 1, none⟩ (.int .i64 0)).setCell ⟨w.heap.size, 2, none⟩ (.slice none 0 0)).setCell ⟨w.heap.size, 3, none⟩ (.slice none 0 0)) ∧ Mem ((((w5.setCell ⟨w.heap.size, 0, none⟩ (.int .i64 0)).setCell ⟨w.heap.size, 1, none⟩ (.int .i64 0)).setCell ⟨w.heap.size, 2, none⟩ (.slice none 0 0)).setCell ⟨w.heap.size, 3, none⟩ (.slice none 0 0)) (w.heap.size + 3) (.slice la ln lc) (.slice sa sn sc) ms ss) :=
   ⟨blk_set (blk_set (blk_set (blk_set J.out.a 0 _) 1 _) 2 _) 3 _, Below.setCell (Below.setCell (Below.setCell (Below.setCell J.out.g (p := ⟨w.heap.size, 0, none⟩) (Nat.le_refl _) _) (p := ⟨w.heap.size, 1, none⟩) (Nat.le_refl _) _) (p := ⟨w.heap.size, 2, none⟩) (Nat.le_refl _) _) (p := ⟨w.heap.size, 3, none⟩) (Nat.le_refl _) _, J.out.m.kept fun g hg _ => (blk_far (by omega) 3 _).trans ((blk_far (by omega) 2 _).trans ((blk_far (by omega) 1 _).trans (blk_far (by omega) 0 _)))⟩
  clear J
  go_wp2_with fail
  generalize ((((w5.setCell ⟨w.heap.size, 0, none⟩ (.int .i64 0)).setCell ⟨w.heap.size, 1, none⟩ (.int .i64 0)).setCell ⟨w.heap.size, 2, none⟩ (.slice none 0 0)).setCell ⟨w.heap.size, 3, none⟩ (.slice none 0 0)) = wf at AF ⊢
  have d0 := (blk_cell AF.out.1 0 (x := .int .i64 0) rfl).1
  have d1 := (blk_cell AF.out.1 1 (x := .int .i64 0) rfl).1
  have d2 := (blk_cell AF.out.1 2 (x := .slice none 0 0) rfl).1
  have d3 := (blk_cell AF.out.1 3 (x := .slice none 0 0) rfl).1
  refine bodyPost_ret (v := .tuple #[.agg #[.int .i64 0, .int .i64 0, .slice none 0 0, .slice none 0 0], .int .i64 3]) (by simp [results, Tryd.results31, go_sem, d0, d1, d2, d3]) rfl ?_
  exact ⟨.slice none 0 0, .slice none 0 0, [], by rw [HN.out.1, HN.out.2]; rfl, ⟨by rw [HN.out.2]; rfl, by rw [HN.out.2]; exact Mem.nil _ _⟩, AF.out.2.1⟩
 case inr =>
  rw [hsb] at p1
  rcases rs with _ | ⟨y, ys⟩
  rotate_left
  ·have HN : Hid (rtC xs = 3 ∧ rtT xs = zTab) := HBD.out (by rw [HOK.out, hsb]; rfl)
   have hlen : 0 < (y :: ys).length := Nat.succ_pos _
   have hdec : decide (0 < (y :: ys).length) = true := decide_eq_true hlen
   clear HOK
   generalize (y :: ys).length = len at p0 hlen hdec
   have J := J0
   clear J0
   have y0 := (blk_cell J.out.b 0 (x := .int .i64 0) rfl).1
   obtain ⟨zc0, zf0⟩ := blk_cell J.out.a 0 (x := .int .i64 0) rfl
   have y1 := (blk_cell J.out.b 1 (x := .int .i64 0) rfl).1
   obtain ⟨zc1, zf1⟩ := blk_cell J.out.a 1 (x := .int .i64 0) rfl
   have y2 := (blk_cell J.out.b 2 (x := .slice none 0 0) rfl).1
   obtain ⟨zc2, zf2⟩ := blk_cell J.out.a 2 (x := .slice none 0 0) rfl
   have y3 := (blk_cell J.out.b 3 (x := .slice none 0 0) rfl).1
   obtain ⟨zc3, zf3⟩ := blk_cell J.out.a 3 (x := .slice none 0 0) rfl
   have AF : Hid (((((w5.setCell ⟨w.heap.size, 0, none⟩ (.int .i64 0)).setCell ⟨w.heap.size, 1, none⟩ (.int .i64 0)).setCell ⟨w.heap.size, 2, none⟩ (.slice none 0 0)).setCell ⟨w.heap.size, 3, none⟩ (.slice none 0 0)).heap[w.heap.size]? = some (.cells #[.int .i64 0, .int .i64 0, .slice none 0 0, .slice none 0 0] 26 (0, 0)) ∧ Below w.heap.size w ((((w5.setCell ⟨w.heap.size, 0, none⟩ (.int .i64 0)).setCell ⟨w.heap.size, 1, none⟩ (.int .i64 0)).setCell ⟨w.heap.size, 2, none⟩ (.slice none 0 0)).setCell ⟨w.heap.size, 3, none⟩ (.slice none 0 0)) ∧ Mem ((((w5.setCell ⟨w.heap.size, 0, none⟩ (.int .i64 0)).setCell ⟨w.heap.size, 1, none⟩ (.int .i64 0)).setCell ⟨w.heap.size, 2, none⟩ (.slice none 0 0)).setCell ⟨w.heap.size, 3, none⟩ (.slice none 0 0)) (w.heap.size + 3) (.slice la ln lc) (.slice sa sn sc) ms ss) :=
    ⟨blk_set (blk_set (blk_set (blk_set J.out.a 0 _) 1 _) 2 _) 3 _, Below.setCell (Below.setCell (Below.setCell (Below.setCell J.out.g (p := ⟨w.heap.size, 0, none⟩) (Nat.le_refl _) _) (p := ⟨w.heap.size, 1, none⟩) (Nat.le_refl _) _) (p := ⟨w.heap.size, 2, none⟩) (Nat.le_refl _) _) (p := ⟨w.heap.size, 3, none⟩) (Nat.le_refl _) _, J.out.m.kept fun g hg _ => (blk_far (by omega) 3 _).trans ((blk_far (by omega) 2 _).trans ((blk_far (by omega) 1 _).trans (blk_far (by omega) 0 _)))⟩
   clear J
   go_wp2_with fail
   generalize ((((w5.setCell ⟨w.heap.size, 0, none⟩ (.int .i64 0)).setCell ⟨w.heap.size, 1, none⟩ (.int .i64 0)).setCell ⟨w.heap.size, 2, none⟩ (.slice none 0 0)).setCell ⟨w.heap.size, 3, none⟩ (.slice none 0 0)) = wf at AF ⊢
   have d0 := (blk_cell AF.out.1 0 (x := .int .i64 0) rfl).1
   have d1 := (blk_cell AF.out.1 1 (x := .int .i64 0) rfl).1
   have d2 := (blk_cell AF.out.1 2 (x := .slice none 0 0) rfl).1
   have d3 := (blk_cell AF.out.1 3 (x := .slice none 0 0) rfl).1
   refine bodyPost_ret (v := .tuple #[.agg #[.int .i64 0, .int .i64 0, .slice none 0 0, .slice none 0 0], .int .i64 3]) (by simp [results, Tryd.results31, go_sem, d0, d1, d2, d3]) rfl ?_
   exact ⟨.slice none 0 0, .slice none 0 0, [], by rw [HN.out.1, HN.out.2]; rfl, ⟨by rw [HN.out.2]; rfl, by rw [HN.out.2]; exact Mem.nil _ _⟩, AF.out.2.1⟩
  ·have HOK2 : Hid (rtOK xs = bOf (TOK ⟨tm, nx, ls, ss⟩)) := by rw [HOK.out, hsb]; rfl
   clear HOK
   have HTO : Hid (Calls Tryd.prog 25 #[.agg #[.int .i64 tm, .int .i64 nx, .slice la ln lc, .slice sa sn sc]] w5 fun e w' => e = .returned (.bool (bOf (TOK ⟨tm, nx, ls, ss⟩))) ∧ Below w5.heap.size w5 w') := by
    obtain ⟨r1, r2⟩ := J0.out.m.rows
    rw [HML.out] at r1
    obtain ⟨t1, t2, t3⟩ := HTS'.out ()
    exact implTableOK_any tm nx _ _ ls ss w5 r1 r2 t3 (by omega) (by omega)
   have x0 := (blk_cell J0.out.x 0 (x := .int .i64 tm) rfl).1
   have x1 := (blk_cell J0.out.x 1 (x := .int .i64 nx) rfl).1
   have x2 := (blk_cell J0.out.x 2 (x := .slice la ln lc) rfl).1
   have x3 := (blk_cell J0.out.x 3 (x := .slice sa sn sc) rfl).1
   generalize bOf (TOK ⟨tm, nx, ls, ss⟩) = bb at HTO HOK2
   go_wp2_with fail
   refine HTO.out.mono ?_
   rintro e w6 ⟨rfl, b6⟩
   have J : Hid (Jt w w6 x5 tm nx (.slice la ln lc) (.slice sa sn sc) ms ss) := J0.out.below b6
   clear J0 b6 HTO x0 x1 x2 x3 p0 p1
   cases bb
   case false =>
    have HN : Hid (rtC xs = 3 ∧ rtT xs = zTab) := HBD.out HOK2.out
    have y0 := (blk_cell J.out.b 0 (x := .int .i64 0) rfl).1
    obtain ⟨zc0, zf0⟩ := blk_cell J.out.a 0 (x := .int .i64 0) rfl
    have y1 := (blk_cell J.out.b 1 (x := .int .i64 0) rfl).1
    obtain ⟨zc1, zf1⟩ := blk_cell J.out.a 1 (x := .int .i64 0) rfl
    have y2 := (blk_cell J.out.b 2 (x := .slice none 0 0) rfl).1
    obtain ⟨zc2, zf2⟩ := blk_cell J.out.a 2 (x := .slice none 0 0) rfl
    have y3 := (blk_cell J.out.b 3 (x := .slice none 0 0) rfl).1
    obtain ⟨zc3, zf3⟩ := blk_cell J.out.a 3 (x := .slice none 0 0) rfl
    have AF : Hid (((((w6.setCell ⟨w.heap.size, 0, none⟩ (.int .i64 0)).setCell ⟨w.heap.size, 1, none⟩ (.int .i64 0)).setCell ⟨w.heap.size, 2, none⟩ (.slice none 0 0)).setCell ⟨w.heap.size, 3, none⟩ (.slice none 0 0)).heap[w.heap.size]? = some (.cells #[.int .i64 0, .int .i64 0, .slice none 0 0, .slice none 0 0] 26 (0, 0)) ∧ Below w.heap.size w ((((w6.setCell ⟨w.heap.size, 0, none⟩ (.int .i64 0)).setCell ⟨w.heap.size, 1, none⟩ (.int .i64 0)).setCell ⟨w.heap.size, 2, none⟩ (.slice none 0 0)).setCell ⟨w.heap.size, 3, none⟩ (.slice none 0 0)) ∧ Mem ((((w6.setCell ⟨w.heap.size, 0, none⟩ (.int .i64 0)).setCell ⟨w.heap.size, 1, none⟩ (.int .i64 0)).setCell ⟨w.heap.size, 2, none⟩ (.slice none 0 0)).setCell ⟨w.heap.size, 3, none⟩ (.slice none 0 0)) (w.heap.size + 3) (.slice la ln lc) (.slice sa sn sc) ms ss) :=
     ⟨blk_set (blk_set (blk_set (blk_set J.out.a 0 _) 1 _) 2 _) 3 _, Below.setCell (Below.setCell (Below.setCell (Below.setCell J.out.g (p := ⟨w.heap.size, 0, none⟩) (Nat.le_refl _) _) (p := ⟨w.heap.size, 1, none⟩) (Nat.le_refl _) _) (p := ⟨w.heap.size, 2, none⟩) (Nat.le_refl _) _) (p := ⟨w.heap.size, 3, none⟩) (Nat.le_refl _) _, J.out.m.kept fun g hg _ => (blk_far (by omega) 3 _).trans ((blk_far (by omega) 2 _).trans ((blk_far (by omega) 1 _).trans (blk_far (by omega) 0 _)))⟩
    clear J
    go_wp2_with fail
    generalize ((((w6.setCell ⟨w.heap.size, 0, none⟩ (.int .i64 0)).setCell ⟨w.heap.size, 1, none⟩ (.int .i64 0)).setCell ⟨w.heap.size, 2, none⟩ (.slice none 0 0)).setCell ⟨w.heap.size, 3, none⟩ (.slice none 0 0)) = wf at AF ⊢
    have d0 := (blk_cell AF.out.1 0 (x := .int .i64 0) rfl).1
    have d1 := (blk_cell AF.out.1 1 (x := .int .i64 0) rfl).1
    have d2 := (blk_cell AF.out.1 2 (x := .slice none 0 0) rfl).1
    have d3 := (blk_cell AF.out.1 3 (x := .slice none 0 0) rfl).1
    refine bodyPost_ret (v := .tuple #[.agg #[.int .i64 0, .int .i64 0, .slice none 0 0, .slice none 0 0], .int .i64 3]) (by simp [results, Tryd.results31, go_sem, d0, d1, d2, d3]) rfl ?_
    exact ⟨.slice none 0 0, .slice none 0 0, [], by rw [HN.out.1, HN.out.2]; rfl, ⟨by rw [HN.out.2]; rfl, by rw [HN.out.2]; exact Mem.nil _ _⟩, AF.out.2.1⟩
   case true =>
    have HN : Hid (rtC xs = 0 ∧ rtT xs = ⟨tm, nx, ls, ss⟩) := HGD.out HOK2.out
    have y0 := (blk_cell J.out.x 0 (x := .int .i64 tm) rfl).1
    obtain ⟨zc0, zf0⟩ := blk_cell J.out.a 0 (x := .int .i64 0) rfl
    have y1 := (blk_cell J.out.x 1 (x := .int .i64 nx) rfl).1
    obtain ⟨zc1, zf1⟩ := blk_cell J.out.a 1 (x := .int .i64 0) rfl
    have y2 := (blk_cell J.out.x 2 (x := .slice la ln lc) rfl).1
    obtain ⟨zc2, zf2⟩ := blk_cell J.out.a 2 (x := .slice none 0 0) rfl
    have y3 := (blk_cell J.out.x 3 (x := .slice sa sn sc) rfl).1
    obtain ⟨zc3, zf3⟩ := blk_cell J.out.a 3 (x := .slice none 0 0) rfl
    have AF : Hid (((((w6.setCell ⟨w.heap.size, 0, none⟩ (.int .i64 tm)).setCell ⟨w.heap.size, 1, none⟩ (.int .i64 nx)).setCell ⟨w.heap.size, 2, none⟩ (.slice la ln lc)).setCell ⟨w.heap.size, 3, none⟩ (.slice sa sn sc)).heap[w.heap.size]? = some (.cells #[.int .i64 tm, .int .i64 nx, .slice la ln lc, .slice sa sn sc] 26 (0, 0)) ∧ Below w.heap.size w ((((w6.setCell ⟨w.heap.size, 0, none⟩ (.int .i64 tm)).setCell ⟨w.heap.size, 1, none⟩ (.int .i64 nx)).setCell ⟨w.heap.size, 2, none⟩ (.slice la ln lc)).setCell ⟨w.heap.size, 3, none⟩ (.slice sa sn sc)) ∧ Mem ((((w6.setCell ⟨w.heap.size, 0, none⟩ (.int .i64 tm)).setCell ⟨w.heap.size, 1, none⟩ (.int .i64 nx)).setCell ⟨w.heap.size, 2, none⟩ (.slice la ln lc)).setCell ⟨w.heap.size, 3, none⟩ (.slice sa sn sc)) (w.heap.size + 3) (.slice la ln lc) (.slice sa sn sc) ms ss) :=
     ⟨blk_set (blk_set (blk_set (blk_set J.out.a 0 _) 1 _) 2 _) 3 _, Below.setCell (Below.setCell (Below.setCell (Below.setCell J.out.g (p := ⟨w.heap.size, 0, none⟩) (Nat.le_refl _) _) (p := ⟨w.heap.size, 1, none⟩) (Nat.le_refl _) _) (p := ⟨w.heap.size, 2, none⟩) (Nat.le_refl _) _) (p := ⟨w.heap.size, 3, none⟩) (Nat.le_refl _) _, J.out.m.kept fun g hg _ => (blk_far (by omega) 3 _).trans ((blk_far (by omega) 2 _).trans ((blk_far (by omega) 1 _).trans (blk_far (by omega) 0 _)))⟩
    clear J
    go_wp2_with fail
    generalize ((((w6.setCell ⟨w.heap.size, 0, none⟩ (.int .i64 tm)).setCell ⟨w.heap.size, 1, none⟩ (.int .i64 nx)).setCell ⟨w.heap.size, 2, none⟩ (.slice la ln lc)).setCell ⟨w.heap.size, 3, none⟩ (.slice sa sn sc)) = wf at AF ⊢
    have d0 := (blk_cell AF.out.1 0 (x := .int .i64 tm) rfl).1
    have d1 := (blk_cell AF.out.1 1 (x := .int .i64 nx) rfl).1
    have d2 := (blk_cell AF.out.1 2 (x := .slice la ln lc) rfl).1
    have d3 := (blk_cell AF.out.1 3 (x := .slice sa sn sc) rfl).1
    refine bodyPost_ret (v := .tuple #[.agg #[.int .i64 tm, .int .i64 nx, .slice la ln lc, .slice sa sn sc], .int .i64 0]) (by simp [results, Tryd.results31, go_sem, d0, d1, d2, d3]) rfl ?_
    exact ⟨_, _, ms, by rw [HN.out.1, HN.out.2]; rfl, ⟨by rw [HN.out.2]; exact HML.out, by rw [HN.out.2]; exact AF.out.2.2.mono (by omega)⟩, AF.out.2.1⟩
set_option maxRecDepth 100000 in
set_option maxHeartbeats 1600000 in
theorem implReadTable_any (v : Value) (xs : List Int) (w : World) (h : RowB w v xs) :
 Calls Tryd.prog 8 #[v] w fun e w' => ∃ u2 u3 ms, e = .returned (.tuple #[tabV (rtT xs).tm (rtT xs).nx u2 u3, .int .i64 (rtC xs)]) ∧ (ms.map (·.1) = (rtT xs).ls ∧ Mem w' w.heap.size u2 u3 ms (rtT xs).ss) ∧ Below w.heap.size w w' := by
 have HJ : Hid (Calls Tryd.prog 31 #[v, .func (Fn.func 32) #[] #[], .func (Fn.func 25) #[] #[]] (w.alloc (.cells #[.int .i64 0, .int .i64 0, .slice none 0 0, .slice none 0 0] 26)) fun e w' => ∃ u2 u3 ms, e = .returned (.tuple #[tabV (rtT xs).tm (rtT xs).nx u2 u3, .int .i64 (rtC xs)]) ∧ (ms.map (·.1) = (rtT xs).ls ∧ Mem w' (w.heap.size + 1) u2 u3 ms (rtT xs).ss) ∧ Below (w.heap.size + 1) (w.alloc (.cells #[.int .i64 0, .int .i64 0, .slice none 0 0, .slice none 0 0] 26)) w') := by
  have := readJust_any v xs (w.alloc (.cells #[.int .i64 0, .int .i64 0, .slice none 0 0, .slice none 0 0] 26)) (h.below ((Below.refl _ _).alloc (Nat.le_refl _) _))
  rw [size_new] at this
  exact this
 obtain ⟨⟨tm, nx, ls, ss⟩, HT⟩ : ∃ t, Hid (rtT xs = t) := ⟨_, rfl⟩
 obtain ⟨RC, HC⟩ : ∃ c, Hid (rtC xs = c) := ⟨_, rfl⟩
 rw [HT.out, HC.out] at HJ
 rw [HT.out, HC.out]
 dsimp only at HJ ⊢
 clear h HT HC
 go_enter Tryd.func8, Tryd.ntmps8
 go_wp2_with fail
 refine HJ.out.mono ?_
 rintro e w1 ⟨u2, u3, ms, rfl, hm, b1⟩
 obtain ⟨la, lc, rfl⟩ := hm.2.ol.slice
 obtain ⟨sa, sc, rfl⟩ := hm.2.os.slice
 have A1 : w1.heap[w.heap.size]? = some (.cells #[.int .i64 0, .int .i64 0, .slice none 0 0, .slice none 0 0] 26 (0, 0)) := (b1.block _ (by omega)).trans (heap_alloc_new w _)
 have G1 : Hid (Below w.heap.size w w1 ∧ ms.map (·.1) = ls ∧ Mem w1 (w.heap.size + 1) (.slice la ms.length lc) (.slice sa ss.length sc) ms ss) := ⟨((Below.refl _ _).alloc (Nat.le_refl _) _).trans (b1.mono (by omega)), hm.1, hm.2⟩
 obtain ⟨ln, HLN⟩ : ∃ ln, Hid (ms.length = ln) := ⟨_, rfl⟩
 obtain ⟨sn, HSN⟩ : ∃ sn, Hid (ss.length = sn) := ⟨_, rfl⟩
 rw [HLN.out, HSN.out] at G1 ⊢
 unfold tabV
 clear hm b1 HJ
 obtain ⟨zc0, zf0⟩ := blk_cell A1 0 (x := .int .i64 0) rfl
 obtain ⟨zc1, zf1⟩ := blk_cell A1 1 (x := .int .i64 0) rfl
 obtain ⟨zc2, zf2⟩ := blk_cell A1 2 (x := .slice none 0 0) rfl
 obtain ⟨zc3, zf3⟩ := blk_cell A1 3 (x := .slice none 0 0) rfl
 have AF : Hid (((((w1.setCell ⟨w.heap.size, 0, none⟩ (.int .i64 tm)).setCell ⟨w.heap.size, 1, none⟩ (.int .i64 nx)).setCell ⟨w.heap.size, 2, none⟩ (.slice la ln lc)).setCell ⟨w.heap.size, 3, none⟩ (.slice sa sn sc)).heap[w.heap.size]? = some (.cells #[.int .i64 tm, .int .i64 nx, .slice la ln lc, .slice sa sn sc] 26 (0, 0)) ∧ Below w.heap.size w ((((w1.setCell ⟨w.heap.size, 0, none⟩ (.int .i64 tm)).setCell ⟨w.heap.size, 1, none⟩ (.int .i64 nx)).setCell ⟨w.heap.size, 2, none⟩ (.slice la ln lc)).setCell ⟨w.heap.size, 3, none⟩ (.slice sa sn sc)) ∧ ms.map (·.1) = ls ∧ Mem ((((w1.setCell ⟨w.heap.size, 0, none⟩ (.int .i64 tm)).setCell ⟨w.heap.size, 1, none⟩ (.int .i64 nx)).setCell ⟨w.heap.size, 2, none⟩ (.slice la ln lc)).setCell ⟨w.heap.size, 3, none⟩ (.slice sa sn sc)) (w.heap.size + 1) (.slice la ln lc) (.slice sa sn sc) ms ss) :=
  ⟨blk_set (blk_set (blk_set (blk_set A1 0 _) 1 _) 2 _) 3 _, Below.setCell (Below.setCell (Below.setCell (Below.setCell G1.out.1 (p := ⟨w.heap.size, 0, none⟩) (Nat.le_refl _) _) (p := ⟨w.heap.size, 1, none⟩) (Nat.le_refl _) _) (p := ⟨w.heap.size, 2, none⟩) (Nat.le_refl _) _) (p := ⟨w.heap.size, 3, none⟩) (Nat.le_refl _) _, G1.out.2.1, G1.out.2.2.kept fun g hg _ => (blk_far (by omega) 3 _).trans ((blk_far (by omega) 2 _).trans ((blk_far (by omega) 1 _).trans (blk_far (by omega) 0 _)))⟩
 clear G1 A1
 go_wp2_with fail
 generalize ((((w1.setCell ⟨w.heap.size, 0, none⟩ (.int .i64 tm)).setCell ⟨w.heap.size, 1, none⟩ (.int .i64 nx)).setCell ⟨w.heap.size, 2, none⟩ (.slice la ln lc)).setCell ⟨w.heap.size, 3, none⟩ (.slice sa sn sc)) = wf at AF ⊢
 have d0 := (blk_cell AF.out.1 0 (x := .int .i64 tm) rfl).1
 have d1 := (blk_cell AF.out.1 1 (x := .int .i64 nx) rfl).1
 have d2 := (blk_cell AF.out.1 2 (x := .slice la ln lc) rfl).1
 have d3 := (blk_cell AF.out.1 3 (x := .slice sa sn sc) rfl).1
 exact bodyPost_ret (v := .tuple #[.agg #[.int .i64 tm, .int .i64 nx, .slice la ln lc, .slice sa sn sc], .int .i64 RC]) (by simp [results, Tryd.results8, go_sem, d0, d1, d2, d3]) rfl ⟨_, _, ms, rfl, ⟨AF.out.2.2.1, AF.out.2.2.2.mono (by omega)⟩, AF.out.2.1⟩
end Go.Proofs.YtakfniknkejgpaaDoor.Ur

/- Bytes that are told: numbers, texts. -/
namespace Go.Proofs.YtakfniknkejgpaaDoor.Pu
open Go.RowKit Go.Proofs.YtakfniknkejgpaaDoor.Sl Go.Proofs.YtakfniknkejgpaaDoor.By Go.Proofs.YtakfniknkejgpaaDoor.Ap

def nb (v : Int) (at' : Nat) : Int := v / 2 ^ (8 * at') % 256
def nums (v : Int) (size k : Nat) : List Int := (List.range k).map fun j => nb v (size - 1 - j)
theorem nums_succ (v : Int) (size k : Nat) : nums v size (k + 1) = nums v size k ++ [nb v (size - 1 - k)] := by simp [nums, List.range_succ]
theorem nums_length (v : Int) (size k : Nat) : (nums v size k).length = k := by simp [nums]

theorem nb_range (v : Int) (k : Nat) : 0 ≤ nb v k ∧ nb v k ≤ 255 := by unfold nb; omega
theorem nums_range (v : Int) (size k : Nat) : ∀ z ∈ nums v size k, 0 ≤ z ∧ z ≤ 255 := by
 intro z hz
 unfold nums at hz
 obtain ⟨j, _, rfl⟩ := List.mem_map.1 hz
 exact nb_range _ _
set_option maxHeartbeats 400000 in
theorem putNumber_any (v : Value) (zs : List Int) (x : Int) (size : Nat) (B : Nat) (w : World) (hown : OwnB 5 w B v zs) (hB : B ≤ w.heap.size) (hs : size ≤ 4) (hlen : zs.length ≤ 1048576) :
 Calls Tryd.prog 26 #[v, .int .i64 x, .int .i64 size] w fun e w' => ∃ v', e = .returned v' ∧ OwnB 5 w' B v' (zs ++ nums x size size) ∧ Kp w w' v v' := by
 obtain ⟨i0, hi, hz0, hz1, hz2⟩ := info_parts Sl.info5
 have hs0 : (size : Int) ≤ 4 := by omega
 have HS : Hid (size ≤ 4) := hs
 have HL : Hid (zs.length ≤ 1048576) := hlen
 clear hs hlen
 go_enter Tryd.func26, Tryd.ntmps26
 go_wp2_with fail
 go_loopw [0, 7] (fun b i wr => ∃ (k : Nat) (q : Int), Hid ((k : Int) + q + 1 = size ∧ k ≤ size) ∧ -1 ≤ q ∧ q ≤ 3 ∧ i = .int .i64 q ∧ OwnB 5 wr B b (zs ++ nums x size k) ∧ Kp w wr v b) (fun _ i _ => (intOf i + 1).toNat)
 case atStart => exact ⟨0, (size : Int) - 1, ⟨by omega, by omega⟩, by omega, by omega, by go_num, by simpa [nums] using hown, Kp.refl _ _⟩
 case round =>
  clear hown hs0
  obtain ⟨k, q, HQ, hq0, hq1, rfl, hown, hkp⟩ := hrel
  have hB' : B ≤ wr.heap.size := Nat.le_trans hB hkp.size
  by_cases hlt : 0 ≤ q
  ·have hl : (zs ++ nums x size k).length + 1 ≤ 140737488355328 := by rw [List.length_append, nums_length]; have := HQ.out; have := HL.out; have := HS.out; omega
   go_wp2_with (at_builtin; go_must (refine list_one (by rfl) _ _ 22 (by rfl) Tryd.underlying22 hi hz0 hz1 hz2 B _ _ _ _ (by rfl) (by rfl) hown hB' (by omega) hl ?_; intro v' w' hown' hkp'))
   have e : x / 2 ^ (8 * q).toNat % 256 = nb x (size - 1 - k) := by
    unfold nb
    rw [show (8 * q).toNat = 8 * (size - 1 - k) by have := HQ.out; omega]
   rw [e, List.append_assoc, ← nums_succ] at hown'
   exact ⟨⟨k + 1, q - 1, ⟨by have := HQ.out; omega, by have := HQ.out; omega⟩, by omega, by omega, rfl, hown', hkp.trans hkp'⟩, by simp [intOf]; omega⟩
  ·have hk : k = size := by have := HQ.out; omega
   have HK : Hid (k = size) := hk
   clear hk
   go_wp2
   go_ret
   exact ⟨_, rfl, by rw [HK.out] at hown; exact hown, hkp⟩

set_option maxHeartbeats 400000 in
theorem putText_any (v : Value) (zs : List Int) (s : ByteArray) (size : Nat) (B : Nat) (w : World) (hown : OwnB 5 w B v zs) (hB : B ≤ w.heap.size) (hs : size ≤ 4) (hlen : zs.length ≤ 1048000) (hl2 : s.size ≤ 1048576) :
 Calls Tryd.prog 56 #[v, .string s, .int .i64 size] w fun e w' => ∃ v', e = .returned v' ∧ OwnB 5 w' B v' (zs ++ nums (s.size : Int) size size ++ bys s) ∧ Kp w w' v v' := by
 obtain ⟨i0, hi, hz0, hz1, hz2⟩ := info_parts Sl.info5
 have hl : ∀ q : List Int, q.length = zs.length + size → q.length + s.size ≤ 140737488355328 := by omega
 have HN : Hid ((zs ++ nums (s.size : Int) size size).length = zs.length + size) := by show _ = _; rw [List.length_append, nums_length]
 have HL : Hid (_) := hl
 have HO : Hid (OwnB 5 w B v zs) := hown
 clear hl hown
 go_enter Tryd.func56, Tryd.ntmps56
 go_wp2_with fail
 refine (putNumber_any v zs _ size B _ HO.out hB hs (by omega)).mono ?_
 rintro e w1 ⟨v1, rfl, o1, k1⟩
 have B1 : B ≤ w1.heap.size := Nat.le_trans hB k1.size
 go_wp2_with (at_builtin; go_must (refine list_str (by rfl) _ _ 22 9 (by rfl) Tryd.underlying22 Tryd.underlying9 hi hz0 hz1 hz2 B _ _ s _ (by rfl) (by rfl) o1 B1 (HL.out _ HN.out) ?_; intro v2 w2 o2 k2))
 go_ret
 exact ⟨_, rfl, o2, k1.trans k2⟩

set_option maxHeartbeats 400000 in
theorem l02Number_any (x : Int) (size : Nat) (w : World) (hs : size ≤ 4) :
 Calls Tryd.prog 59 #[.int .i64 x, .int .i64 size] w fun e w' => ∃ v', e = .returned v' ∧ OwnB 5 w' w.heap.size v' (nums x size size) ∧ Below w.heap.size w w' := by
 obtain ⟨i0, hi, hz0, hz1, hz2⟩ := info_parts Sl.info5
 have hs0 : (size : Int) ≤ 4 := by omega
 have HS : Hid (size ≤ 4) := hs
 clear hs
 go_enter Tryd.func59, Tryd.ntmps59
 go_wp2_with fail
 go_loopw [5, 6] (fun b i wr => ∃ (k : Nat) (q : Int), Hid ((k : Int) + q + 1 = size ∧ k ≤ size) ∧ -1 ≤ q ∧ q ≤ 3 ∧ i = .int .i64 q ∧ OwnB 5 wr w.heap.size b (nums x size k) ∧ Below w.heap.size w wr) (fun _ i _ => (intOf i + 1).toNat)
 case atStart => exact ⟨0, (size : Int) - 1, ⟨by omega, by omega⟩, by omega, by omega, by go_num, own_made 5 w w.heap.size #[] 0 (Nat.le_refl _) (by simp [maxLen]) rfl, (Below.refl _ _).alloc (Nat.le_refl _) _⟩
 case round =>
  clear hs0
  obtain ⟨k, q, HQ, hq0, hq1, rfl, hown, hbel⟩ := hrel
  by_cases hlt : 0 ≤ q
  ·have hl : (nums x size k).length + 1 ≤ 140737488355328 := by rw [nums_length]; have := HQ.out; have := HS.out; omega
   have hB := hbel.size
   go_wp2_with (at_builtin; go_must (refine By.wpList_append_byte (by rfl) _ _ 22 (by rfl) 5 i0 Tryd.underlying22 hi hz0 hz1 hz2 w.heap.size w _ _ _ _ (by rfl) hown hbel hB (by rfl) hl ?_; intro v' w' hown' hbel' hB'))
   have e : x / 2 ^ (8 * q).toNat % 256 = nb x (size - 1 - k) := by
    unfold nb
    rw [show (8 * q).toNat = 8 * (size - 1 - k) by have := HQ.out; omega]
   rw [e, ← nums_succ] at hown'
   exact ⟨⟨k + 1, q - 1, ⟨by have := HQ.out; omega, by have := HQ.out; omega⟩, by omega, by omega, rfl, hown', hbel'⟩, by simp [intOf]; omega⟩
  ·have hk : k = size := by have := HQ.out; omega
   have HK : Hid (k = size) := hk
   clear hk
   go_wp2
   go_ret
   exact ⟨_, rfl, by rw [HK.out] at hown; exact hown, hbel⟩
end Go.Proofs.YtakfniknkejgpaaDoor.Pu
