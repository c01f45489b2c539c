/- impl.ReadTable: what it answers. -/
import Derived.Test.YtkjbdemhpnhagaaUu
import Derived.Test.YtkjbdemhpnhagaaTr
namespace Go.Proofs.Ytkjbdemhpnhagaa.Ur
open Go.RowKit Go.Proofs.Ytkjbdemhpnhagaa.Sl Go.Proofs.Ytkjbdemhpnhagaa.By Go.Proofs.Ytkjbdemhpnhagaa.Ap Go.Proofs.Ytkjbdemhpnhagaa.Rr Go.Proofs.Ytkjbdemhpnhagaa.Tb Go.Proofs.Ytkjbdemhpnhagaa.Tw
open Go.Proofs.Ytkjbdemhpnhagaa.Wa (OwnW OwnS)
open Go.Proofs.Ytkjbdemhpnhagaa.Lo (LkA uV OwnL)
open Go.Proofs.Ytkjbdemhpnhagaa.Tp (bOf TOK implTableOK_any)

theorem Mem.rows {W : World} {B : Nat} {v2 v3 : Value} {ms : List LkA} {ss : List Sn} (h : Mem W B v2 v3 ms ss) : RowL W v2 (ms.map (·.1)) ∧ RowS W v3 ss := ⟨h.ol.row fun m hm => (h.ow m hm).row, h.os.row⟩
theorem Mem.nil (W : World) (B : Nat) : Mem W B (.slice none 0 0) (.slice none 0 0) [] [] := ⟨World.ownsRow_nil _ _ _ _, fun m hm => (by cases hm), List.Pairwise.nil, OwnS.nil _ _⟩
theorem Mem.mono {W : World} {B B' : Nat} {v2 v3 : Value} {ms : List LkA} {ss : List Sn} (h : Mem W B v2 v3 ms ss) (hb : B' ≤ B) : Mem W B' v2 v3 ms ss := ⟨h.ol.mono hb, fun m hm => (h.ow m hm).mono hb, h.di, h.os.mono hb⟩
theorem Mem.below {W W' : World} {B : Nat} {v2 v3 : Value} {ms : List LkA} {ss : List Sn} (h : Mem W B v2 v3 ms ss) (hb : Below W.heap.size W W') : Mem W' B v2 v3 ms ss := h.kept fun g _ hg => hb.block g hg
/-- What is read is small. -/
theorem txt_small (xs : List Int) (hr : ∀ x ∈ xs, 0 ≤ x ∧ x ≤ 255) : (txtB 1 xs).size ≤ 65535 := by
  unfold txtB
  rw [strOfNums_size]
  exact Nat.le_trans (tkB_len _ _) (txtN_le 1 xs (by decide) hr).1
theorem cnt_le {xs : List Int} (hr : ∀ x ∈ xs, 0 ≤ x ∧ x ≤ 255) : cnt xs ≤ 255 := by
  have nb := nv_range (n := 1) hr
  simp only [show ((256 : Int) ^ 1) = 256 from rfl] at nb
  unfold cnt; omega
theorem lkO_small (xs : List Int) (hr : ∀ x ∈ xs, 0 ≤ x ∧ x ≤ 255) : (lkO xs).n.size ≤ 1048576 ∧ (lkO xs).ws.length ≤ 1048576 := by
  have h1 : (lkO xs).n = txtB 1 xs := by simp only [lkO]
  have h2 : (lkO xs).ws = itL wtR wtO (cnt (lk3 xs)) (tkR 1 (lk3 xs)) := by simp only [lkO]
  have h3 := txt_small xs hr
  refine ⟨by rw [h1]; omega, ?_⟩
  rw [h2]
  rw [itL_len]
  have := cnt_le ((less_lk3 xs).2 hr)
  omega
theorem itL_all {α : Type} {f : List Int → List Int} {o : List Int → α} {Q : α → Prop} (hf : Less f) (ho : ∀ xs : List Int, (∀ x ∈ xs, 0 ≤ x ∧ x ≤ 255) → Q (o xs)) (xs : List Int) (hr : ∀ x ∈ xs, 0 ≤ x ∧ x ≤ 255) : ∀ k, ∀ y ∈ itL f o k xs, Q y
  | 0, y, hy => by cases hy
  | k + 1, y, hy => by
    rw [itL_succ] at hy
    rcases List.mem_append.1 hy with hy | hy
    · exact itL_all hf ho xs hr k y hy
    · rw [List.mem_singleton.1 hy]; exact ho _ ((less_it hf k xs).2 hr)
theorem less_2 : Less tb2 := (less_tk 3).comp (less_tk 4)
theorem less_A : Less tbA := (less_tk 1).comp less_2
theorem less_B : Less tbB := fun xs => ((less_it less_lk (cnt (tb2 xs))).comp less_A) xs
theorem tbO_small (xs : List Int) (hr : ∀ x ∈ xs, 0 ≤ x ∧ x ≤ 255) : (tbO xs).ls.length ≤ 255 ∧ (tbO xs).ss.length ≤ 255 ∧ ∀ x ∈ (tbO xs).ls, x.n.size ≤ 1048576 ∧ x.ws.length ≤ 1048576 := by
  refine ⟨?_, ?_, ?_⟩
  · have e : (tbO xs).ls = itL lkR lkO (cnt (tb2 xs)) (tbA xs) := by simp only [tbO]
    rw [e, itL_len]; exact cnt_le ((less_2 xs).2 hr)
  · have e : (tbO xs).ss = itL snR snO (cnt (tbB xs)) (tbC xs) := by simp only [tbO]
    rw [e, itL_len]; exact cnt_le ((less_B xs).2 hr)
  · have e : (tbO xs).ls = itL lkR lkO (cnt (tb2 xs)) (tbA xs) := by simp only [tbO]
    rw [e]
    exact itL_all (Q := fun x : Lk => x.n.size ≤ 1048576 ∧ x.ws.length ≤ 1048576) less_lk lkO_small (tbA xs) ((less_A xs).2 hr) _
/-- What ReadTable answers. -/
noncomputable def rtOK (xs : List Int) : Bool := !tbS xs false && ((tbR xs).isEmpty && bOf (TOK (tbO xs)))
noncomputable def rtC (xs : List Int) : Int := if 65536 < xs.length then 2 else if rtOK xs then 0 else 3
def zTab : Tab := ⟨0, 0, [], []⟩
noncomputable def rtT (xs : List Int) : Tab := if rtC xs = 0 then tbO xs else zTab
theorem rt_long {xs : List Int} (h : 65536 < xs.length) : rtC xs = 2 ∧ rtT xs = zTab := by
  have e : rtC xs = 2 := if_pos h
  exact ⟨e, by unfold rtT; rw [e]; rfl⟩
theorem rt_bad {xs : List Int} (h : ¬ 65536 < xs.length) (hb : rtOK xs = false) : rtC xs = 3 ∧ rtT xs = zTab := by
  have e : rtC xs = 3 := by unfold rtC; rw [if_neg h, hb]; rfl
  exact ⟨e, by unfold rtT; rw [e]; rfl⟩
theorem rt_ok {xs : List Int} (h : ¬ 65536 < xs.length) (hb : rtOK xs = true) : rtC xs = 0 ∧ rtT xs = tbO xs := by
  have e : rtC xs = 0 := by unfold rtC; rw [if_neg h, hb]; rfl
  exact ⟨e, by unfold rtT; rw [e]; rfl⟩
structure Jt (w W : World) (x : Nat) (tm nx : Int) (vl vs : Value) (ms : List LkA) (ss : List Sn) : Prop where
  a : W.heap[w.heap.size]? = some (.cells #[.int .i64 0, .int .i64 0, .slice none 0 0, .slice none 0 0] 31 (0, 0))
  b : W.heap[w.heap.size + 1]? = some (.cells #[.int .i64 0, .int .i64 0, .slice none 0 0, .slice none 0 0] 31 (0, 0))
  x : W.heap[x]? = some (.cells #[.int .i64 tm, .int .i64 nx, vl, vs] 31 (0, 0))
  g : Below w.heap.size w W
  m : Mem W (w.heap.size + 3) vl vs ms ss
theorem Jt.below {w W W' : World} {x : Nat} {tm nx : Int} {vl vs : Value} {ms : List LkA} {ss : List Sn} (h : Jt w W x tm nx vl vs ms ss) (hb : Below W.heap.size W W') : Jt w W' x tm nx vl vs ms ss :=
  ⟨(hb.block _ (Array.getElem?_eq_some_iff.1 h.a).1).trans h.a, (hb.block _ (Array.getElem?_eq_some_iff.1 h.b).1).trans h.b, (hb.block _ (Array.getElem?_eq_some_iff.1 h.x).1).trans h.x, h.g.trans (hb.mono h.g.size), h.m.below hb⟩
theorem rj_start (w : World) (v : Value) (xs : List Int) (h : RowB w v xs) : Rdr w.heap.size (((w.alloc (.cells #[.int .i64 0, .int .i64 0, .slice none 0 0, .slice none 0 0] 31)).alloc (.cells #[.int .i64 0, .int .i64 0, .slice none 0 0, .slice none 0 0] 31)).alloc (.cells #[v, .bool false] 117)) (w.heap.size + 2) xs false := by
  refine ⟨_, ?_, (RowU.of h).kept (fun k hk => ?_)⟩
  · have := blk_new ((w.alloc (.cells #[.int .i64 0, .int .i64 0, .slice none 0 0, .slice none 0 0] 31)).alloc (.cells #[.int .i64 0, .int .i64 0, .slice none 0 0, .slice none 0 0] 31)) #[v, .bool false] 117
    rw [size_new, size_new] at this
    exact this
  · rw [Below.heap_alloc _ _ _ (by simp; omega), Below.heap_alloc _ _ _ (by simp; omega), Below.heap_alloc _ _ _ hk]
set_option maxRecDepth 100000 in
set_option maxHeartbeats 1600000 in
theorem readJust_any (v : Value) (xs : List Int) (w : World) (h : RowB w v xs) :
    Calls Try.prog 55 #[v, .func (Fn.func 56) #[] #[], .func (Fn.func 11) #[] #[]] w fun e w' => ∃ u2 u3 ms, e = .returned (.tuple #[tabV (rtT xs).tm (rtT xs).nx u2 u3, .int .i64 (rtC xs)]) ∧ (ms.map (·.1) = (rtT xs).ls ∧ Mem w' w.heap.size u2 u3 ms (rtT xs).ss) ∧ Below w.heap.size w w' := by
  have hr : ∀ x ∈ xs, 0 ≤ x ∧ x ≤ 255 := by obtain ⟨_, _, _, _, h⟩ := h; exact h
  have H0 : Hid (∀ a cap, v = .slice a xs.length cap → Rdr w.heap.size (((w.alloc (.cells #[.int .i64 0, .int .i64 0, .slice none 0 0, .slice none 0 0] 31)).alloc (.cells #[.int .i64 0, .int .i64 0, .slice none 0 0, .slice none 0 0] 31)).alloc (.cells #[.slice a xs.length cap, .bool false] 117)) (w.heap.size + 2) xs false) := fun a cap e => by rw [← e]; exact rj_start w v xs h
  obtain ⟨a, cap, rfl, _⟩ := h
  by_cases hb : 65536 < xs.length
  · have hb' : (65536 : Int) < (xs.length : Int) := by omega
    have HN : Hid (rtC xs = 2 ∧ rtT xs = zTab) := rt_long hb
    rw [HN.out.1, HN.out.2]
    clear H0 hr
    go_enter Try.func55, Try.ntmps55
    go_wp2_with fail
    exact bodyPost_ret (v := .tuple #[.agg #[.int .i64 0, .int .i64 0, .slice none 0 0, .slice none 0 0], .int .i64 2]) (by simp [results, Try.results55, go_sem]) rfl ⟨.slice none 0 0, .slice none 0 0, [], rfl, ⟨rfl, Mem.nil _ _⟩, ((Below.refl _ _).alloc (Nat.le_refl _) _).alloc (by simp) _⟩
  have hb' : ¬ (65536 : Int) < (xs.length : Int) := by omega
  have HTK : Hid (Calls Try.prog 56 #[.pointer (some ⟨w.heap.size + 2, 0, none⟩)] (((w.alloc (.cells #[.int .i64 0, .int .i64 0, .slice none 0 0, .slice none 0 0] 31)).alloc (.cells #[.int .i64 0, .int .i64 0, .slice none 0 0, .slice none 0 0] 31)).alloc (.cells #[.slice a xs.length cap, .bool false] 117)) fun e w' => ∃ u2 u3 ms, e = .returned (tabV (tbO xs).tm (tbO xs).nx u2 u3) ∧ (ms.map (·.1) = (tbO xs).ls ∧ Mem w' (w.heap.size + 3) u2 u3 ms (tbO xs).ss) ∧ Rdr w.heap.size w' (w.heap.size + 2) (tbR xs) (tbS xs false) ∧ (w'.heap[w.heap.size]? = some (.cells #[.int .i64 0, .int .i64 0, .slice none 0 0, .slice none 0 0] 31 (0, 0)) ∧ w'.heap[w.heap.size + 1]? = some (.cells #[.int .i64 0, .int .i64 0, .slice none 0 0, .slice none 0 0] 31 (0, 0)) ∧ Below w.heap.size w w' ∧ w.heap.size + 3 ≤ w'.heap.size)) := by
    have hs3 : (((w.alloc (.cells #[.int .i64 0, .int .i64 0, .slice none 0 0, .slice none 0 0] 31)).alloc (.cells #[.int .i64 0, .int .i64 0, .slice none 0 0, .slice none 0 0] 31)).alloc (.cells #[.slice a xs.length cap, .bool false] 117)).heap.size = w.heap.size + 3 := by rw [size_new, size_new, size_new]
    refine (takeTable_any (w.heap.size + 2) w.heap.size xs false _ (H0.out a cap rfl) (by omega) (by omega) hr).mono ?_
    rintro e w' ⟨u2, u3, ms, rfl, hm, r, g⟩
    rw [hs3] at hm
    refine ⟨u2, u3, ms, rfl, hm, r, blk_kept ?_ g (by omega), blk_kept ?_ g (by omega), ?_, by have := g.size; omega⟩
    · exact ((Below.heap_alloc _ _ _ (by simp; omega)).trans (Below.heap_alloc _ _ _ (by simp))).trans (blk_new _ _ _)
    · have := blk_new (w.alloc (.cells #[.int .i64 0, .int .i64 0, .slice none 0 0, .slice none 0 0] 31)) #[.int .i64 0, .int .i64 0, .slice none 0 0, .slice none 0 0] 31
      rw [size_new] at this
      exact (Below.heap_alloc _ _ _ (by simp)).trans this
    · have G0 : Below w.heap.size w (((w.alloc (.cells #[.int .i64 0, .int .i64 0, .slice none 0 0, .slice none 0 0] 31)).alloc (.cells #[.int .i64 0, .int .i64 0, .slice none 0 0, .slice none 0 0] 31)).alloc (.cells #[.slice a xs.length cap, .bool false] 117)) := (((Below.refl _ _).alloc (Nat.le_refl _) _).alloc (by simp) _).alloc (by simp; omega) _
      exact ⟨g.os.trans G0.os, g.tape.trans G0.tape, g.output.trans G0.output, Nat.le_trans G0.size g.size, fun k hk => (below_kept g (by omega) (by rw [hs3]; omega) k hk).trans (G0.block k hk)⟩
  have HTS := tbO_small xs hr
  have HOK : Hid (rtOK xs = (!tbS xs false && ((tbR xs).isEmpty && bOf (TOK (tbO xs))))) := rfl
  have HBD : Hid (rtOK xs = false → rtC xs = 3 ∧ rtT xs = zTab) := rt_bad hb
  have HGD : Hid (rtOK xs = true → rtC xs = 0 ∧ rtT xs = tbO xs) := rt_ok hb
  obtain ⟨⟨tm, nx, ls, ss⟩, HT⟩ : ∃ t, Hid (tbO xs = t) := ⟨_, rfl⟩
  obtain ⟨rs, HRS⟩ : ∃ rs, Hid (tbR xs = rs) := ⟨_, rfl⟩
  obtain ⟨sb, HSB⟩ : ∃ sb, Hid (tbS xs false = sb) := ⟨_, rfl⟩
  rw [HT.out, HRS.out, HSB.out] at HTK HOK
  rw [HT.out] at HTS HGD
  dsimp only at HTK HTS
  have HTS' : Hid (∀ _ : Unit, ls.length ≤ 255 ∧ ss.length ≤ 255 ∧ ∀ x ∈ ls, x.n.size ≤ 1048576 ∧ x.ws.length ≤ 1048576) := fun _ => HTS
  clear H0 hr HTS HT HRS HSB hb
  go_enter Try.func55, Try.ntmps55
  go_wp2_with fail
  rw [show w.heap.size + 1 + 1 = w.heap.size + 2 from rfl]
  refine HTK.out.mono ?_
  rintro e w4 ⟨u2, u3, ms, rfl, hm, r4, ha, hbb, g4, s4⟩
  obtain ⟨la, lc, rfl⟩ := hm.2.ol.slice
  obtain ⟨sa, sc, rfl⟩ := hm.2.os.slice
  obtain ⟨v4, p4, a', cap', rfl, _, _, _⟩ := r4
  have HML : Hid (ms.map (·.1) = ls) := hm.1
  have J0 : Hid (Jt w (w4.alloc (.cells #[.int .i64 tm, .int .i64 nx, .slice la ms.length lc, .slice sa ss.length sc] 31)) w4.heap.size tm nx (.slice la ms.length lc) (.slice sa ss.length sc) ms ss) :=
    ⟨(Below.heap_alloc _ _ _ (by omega)).trans ha, (Below.heap_alloc _ _ _ (by omega)).trans hbb, heap_alloc_new _ _, g4.alloc g4.size _, hm.2.below (by exact (Below.refl _ _).alloc (Nat.le_refl _) _)⟩
  have P5 := (Below.heap_alloc w4 (.cells #[.int .i64 tm, .int .i64 nx, .slice la ms.length lc, .slice sa ss.length sc] 31) _ (show w.heap.size + 2 < w4.heap.size by omega)).trans p4
  clear HTK hm ha hbb g4 p4
  unfold tabV
  go_upto_region 6 with fail
  generalize (w4.alloc (.cells #[.int .i64 tm, .int .i64 nx, .slice la ms.length lc, .slice sa ss.length sc] 31)) = w5 at J0 P5 ⊢
  generalize w4.heap.size = x5 at J0 ⊢
  obtain ⟨p0, _⟩ := blk_cell P5 0 (x := .slice a' rs.length cap') rfl
  obtain ⟨p1, _⟩ := blk_cell P5 1 (x := .bool sb) rfl
  obtain ⟨ln, HLN⟩ : ∃ ln, Hid (ms.length = ln) := ⟨_, rfl⟩
  obtain ⟨sn, HSN⟩ : ∃ sn, Hid (ss.length = sn) := ⟨_, rfl⟩
  rw [HLN.out, HSN.out] at J0 ⊢
  clear P5
  rcases Bool.eq_false_or_eq_true sb with hsb | hsb
  case inl =>
    rw [hsb] at p1
    have HN : Hid (rtC xs = 3 ∧ rtT xs = zTab) := HBD.out (by rw [HOK.out, hsb]; rfl)
    have J := J0
    clear J0
    have y0 := (blk_cell J.out.b 0 (x := .int .i64 0) rfl).1
    obtain ⟨zc0, zf0⟩ := blk_cell J.out.a 0 (x := .int .i64 0) rfl
    have y1 := (blk_cell J.out.b 1 (x := .int .i64 0) rfl).1
    obtain ⟨zc1, zf1⟩ := blk_cell J.out.a 1 (x := .int .i64 0) rfl
    have y2 := (blk_cell J.out.b 2 (x := .slice none 0 0) rfl).1
    obtain ⟨zc2, zf2⟩ := blk_cell J.out.a 2 (x := .slice none 0 0) rfl
    have y3 := (blk_cell J.out.b 3 (x := .slice none 0 0) rfl).1
    obtain ⟨zc3, zf3⟩ := blk_cell J.out.a 3 (x := .slice none 0 0) rfl
    have AF : Hid (((((w5.setCell ⟨w.heap.size, 0, none⟩ (.int .i64 0)).setCell ⟨w.heap.size, 1, none⟩ (.int .i64 0)).setCell ⟨w.heap.size, 2, none⟩ (.slice none 0 0)).setCell ⟨w.heap.size, 3, none⟩ (.slice none 0 0)).heap[w.heap.size]? = some (.cells #[.int .i64 0, .int .i64 0, .slice none 0 0, .slice none 0 0] 31 (0, 0)) ∧ Below w.heap.size w ((((w5.setCell ⟨w.heap.size, 0, none⟩ (.int .i64 0)).setCell ⟨w.heap.size, 1, none⟩ (.int .i64 0)).setCell ⟨w.heap.size, 2, none⟩ (.slice none 0 0)).setCell ⟨w.heap.size, 3, none⟩ (.slice none 0 0)) ∧ Mem ((((w5.setCell ⟨w.heap.size, 0, none⟩ (.int .i64 0)).setCell ⟨w.heap.size, 1, none⟩ (.int .i64 0)).setCell ⟨w.heap.size, 2, none⟩ (.slice none 0 0)).setCell ⟨w.heap.size, 3, none⟩ (.slice none 0 0)) (w.heap.size + 3) (.slice la ln lc) (.slice sa sn sc) ms ss) :=
      ⟨blk_set (blk_set (blk_set (blk_set J.out.a 0 _) 1 _) 2 _) 3 _, Below.setCell (Below.setCell (Below.setCell (Below.setCell J.out.g (p := ⟨w.heap.size, 0, none⟩) (Nat.le_refl _) _) (p := ⟨w.heap.size, 1, none⟩) (Nat.le_refl _) _) (p := ⟨w.heap.size, 2, none⟩) (Nat.le_refl _) _) (p := ⟨w.heap.size, 3, none⟩) (Nat.le_refl _) _, J.out.m.kept fun g hg _ => (blk_far (by omega) 3 _).trans ((blk_far (by omega) 2 _).trans ((blk_far (by omega) 1 _).trans (blk_far (by omega) 0 _)))⟩
    clear J
    go_wp2_with fail
    generalize ((((w5.setCell ⟨w.heap.size, 0, none⟩ (.int .i64 0)).setCell ⟨w.heap.size, 1, none⟩ (.int .i64 0)).setCell ⟨w.heap.size, 2, none⟩ (.slice none 0 0)).setCell ⟨w.heap.size, 3, none⟩ (.slice none 0 0)) = wf at AF ⊢
    have d0 := (blk_cell AF.out.1 0 (x := .int .i64 0) rfl).1
    have d1 := (blk_cell AF.out.1 1 (x := .int .i64 0) rfl).1
    have d2 := (blk_cell AF.out.1 2 (x := .slice none 0 0) rfl).1
    have d3 := (blk_cell AF.out.1 3 (x := .slice none 0 0) rfl).1
    refine bodyPost_ret (v := .tuple #[.agg #[.int .i64 0, .int .i64 0, .slice none 0 0, .slice none 0 0], .int .i64 3]) (by simp [results, Try.results55, go_sem, d0, d1, d2, d3]) rfl ?_
    exact ⟨.slice none 0 0, .slice none 0 0, [], by rw [HN.out.1, HN.out.2]; rfl, ⟨by rw [HN.out.2]; rfl, by rw [HN.out.2]; exact Mem.nil _ _⟩, AF.out.2.1⟩
  case inr =>
    rw [hsb] at p1
    rcases rs with _ | ⟨y, ys⟩
    rotate_left
    · have HN : Hid (rtC xs = 3 ∧ rtT xs = zTab) := HBD.out (by rw [HOK.out, hsb]; rfl)
      have hlen : 0 < (y :: ys).length := Nat.succ_pos _
      have hdec : decide (0 < (y :: ys).length) = true := decide_eq_true hlen
      clear HOK
      generalize (y :: ys).length = len at p0 hlen hdec
      have J := J0
      clear J0
      have y0 := (blk_cell J.out.b 0 (x := .int .i64 0) rfl).1
      obtain ⟨zc0, zf0⟩ := blk_cell J.out.a 0 (x := .int .i64 0) rfl
      have y1 := (blk_cell J.out.b 1 (x := .int .i64 0) rfl).1
      obtain ⟨zc1, zf1⟩ := blk_cell J.out.a 1 (x := .int .i64 0) rfl
      have y2 := (blk_cell J.out.b 2 (x := .slice none 0 0) rfl).1
      obtain ⟨zc2, zf2⟩ := blk_cell J.out.a 2 (x := .slice none 0 0) rfl
      have y3 := (blk_cell J.out.b 3 (x := .slice none 0 0) rfl).1
      obtain ⟨zc3, zf3⟩ := blk_cell J.out.a 3 (x := .slice none 0 0) rfl
      have AF : Hid (((((w5.setCell ⟨w.heap.size, 0, none⟩ (.int .i64 0)).setCell ⟨w.heap.size, 1, none⟩ (.int .i64 0)).setCell ⟨w.heap.size, 2, none⟩ (.slice none 0 0)).setCell ⟨w.heap.size, 3, none⟩ (.slice none 0 0)).heap[w.heap.size]? = some (.cells #[.int .i64 0, .int .i64 0, .slice none 0 0, .slice none 0 0] 31 (0, 0)) ∧ Below w.heap.size w ((((w5.setCell ⟨w.heap.size, 0, none⟩ (.int .i64 0)).setCell ⟨w.heap.size, 1, none⟩ (.int .i64 0)).setCell ⟨w.heap.size, 2, none⟩ (.slice none 0 0)).setCell ⟨w.heap.size, 3, none⟩ (.slice none 0 0)) ∧ Mem ((((w5.setCell ⟨w.heap.size, 0, none⟩ (.int .i64 0)).setCell ⟨w.heap.size, 1, none⟩ (.int .i64 0)).setCell ⟨w.heap.size, 2, none⟩ (.slice none 0 0)).setCell ⟨w.heap.size, 3, none⟩ (.slice none 0 0)) (w.heap.size + 3) (.slice la ln lc) (.slice sa sn sc) ms ss) :=
        ⟨blk_set (blk_set (blk_set (blk_set J.out.a 0 _) 1 _) 2 _) 3 _, Below.setCell (Below.setCell (Below.setCell (Below.setCell J.out.g (p := ⟨w.heap.size, 0, none⟩) (Nat.le_refl _) _) (p := ⟨w.heap.size, 1, none⟩) (Nat.le_refl _) _) (p := ⟨w.heap.size, 2, none⟩) (Nat.le_refl _) _) (p := ⟨w.heap.size, 3, none⟩) (Nat.le_refl _) _, J.out.m.kept fun g hg _ => (blk_far (by omega) 3 _).trans ((blk_far (by omega) 2 _).trans ((blk_far (by omega) 1 _).trans (blk_far (by omega) 0 _)))⟩
      clear J
      go_wp2_with fail
      generalize ((((w5.setCell ⟨w.heap.size, 0, none⟩ (.int .i64 0)).setCell ⟨w.heap.size, 1, none⟩ (.int .i64 0)).setCell ⟨w.heap.size, 2, none⟩ (.slice none 0 0)).setCell ⟨w.heap.size, 3, none⟩ (.slice none 0 0)) = wf at AF ⊢
      have d0 := (blk_cell AF.out.1 0 (x := .int .i64 0) rfl).1
      have d1 := (blk_cell AF.out.1 1 (x := .int .i64 0) rfl).1
      have d2 := (blk_cell AF.out.1 2 (x := .slice none 0 0) rfl).1
      have d3 := (blk_cell AF.out.1 3 (x := .slice none 0 0) rfl).1
      refine bodyPost_ret (v := .tuple #[.agg #[.int .i64 0, .int .i64 0, .slice none 0 0, .slice none 0 0], .int .i64 3]) (by simp [results, Try.results55, go_sem, d0, d1, d2, d3]) rfl ?_
      exact ⟨.slice none 0 0, .slice none 0 0, [], by rw [HN.out.1, HN.out.2]; rfl, ⟨by rw [HN.out.2]; rfl, by rw [HN.out.2]; exact Mem.nil _ _⟩, AF.out.2.1⟩
    · have HOK2 : Hid (rtOK xs = bOf (TOK ⟨tm, nx, ls, ss⟩)) := by rw [HOK.out, hsb]; rfl
      clear HOK
      have HTO : Hid (Calls Try.prog 11 #[.agg #[.int .i64 tm, .int .i64 nx, .slice la ln lc, .slice sa sn sc]] w5 fun e w' => e = .returned (.bool (bOf (TOK ⟨tm, nx, ls, ss⟩))) ∧ Below w5.heap.size w5 w') := by
        obtain ⟨r1, r2⟩ := J0.out.m.rows
        rw [HML.out] at r1
        obtain ⟨t1, t2, t3⟩ := HTS'.out ()
        exact implTableOK_any tm nx _ _ ls ss w5 r1 r2 t3 (by omega) (by omega)
      have x0 := (blk_cell J0.out.x 0 (x := .int .i64 tm) rfl).1
      have x1 := (blk_cell J0.out.x 1 (x := .int .i64 nx) rfl).1
      have x2 := (blk_cell J0.out.x 2 (x := .slice la ln lc) rfl).1
      have x3 := (blk_cell J0.out.x 3 (x := .slice sa sn sc) rfl).1
      generalize bOf (TOK ⟨tm, nx, ls, ss⟩) = bb at HTO HOK2
      go_wp2_with fail
      refine HTO.out.mono ?_
      rintro e w6 ⟨rfl, b6⟩
      have J : Hid (Jt w w6 x5 tm nx (.slice la ln lc) (.slice sa sn sc) ms ss) := J0.out.below b6
      clear J0 b6 HTO x0 x1 x2 x3 p0 p1
      cases bb
      case false =>
        have HN : Hid (rtC xs = 3 ∧ rtT xs = zTab) := HBD.out HOK2.out
        have y0 := (blk_cell J.out.b 0 (x := .int .i64 0) rfl).1
        obtain ⟨zc0, zf0⟩ := blk_cell J.out.a 0 (x := .int .i64 0) rfl
        have y1 := (blk_cell J.out.b 1 (x := .int .i64 0) rfl).1
        obtain ⟨zc1, zf1⟩ := blk_cell J.out.a 1 (x := .int .i64 0) rfl
        have y2 := (blk_cell J.out.b 2 (x := .slice none 0 0) rfl).1
        obtain ⟨zc2, zf2⟩ := blk_cell J.out.a 2 (x := .slice none 0 0) rfl
        have y3 := (blk_cell J.out.b 3 (x := .slice none 0 0) rfl).1
        obtain ⟨zc3, zf3⟩ := blk_cell J.out.a 3 (x := .slice none 0 0) rfl
        have AF : Hid (((((w6.setCell ⟨w.heap.size, 0, none⟩ (.int .i64 0)).setCell ⟨w.heap.size, 1, none⟩ (.int .i64 0)).setCell ⟨w.heap.size, 2, none⟩ (.slice none 0 0)).setCell ⟨w.heap.size, 3, none⟩ (.slice none 0 0)).heap[w.heap.size]? = some (.cells #[.int .i64 0, .int .i64 0, .slice none 0 0, .slice none 0 0] 31 (0, 0)) ∧ Below w.heap.size w ((((w6.setCell ⟨w.heap.size, 0, none⟩ (.int .i64 0)).setCell ⟨w.heap.size, 1, none⟩ (.int .i64 0)).setCell ⟨w.heap.size, 2, none⟩ (.slice none 0 0)).setCell ⟨w.heap.size, 3, none⟩ (.slice none 0 0)) ∧ Mem ((((w6.setCell ⟨w.heap.size, 0, none⟩ (.int .i64 0)).setCell ⟨w.heap.size, 1, none⟩ (.int .i64 0)).setCell ⟨w.heap.size, 2, none⟩ (.slice none 0 0)).setCell ⟨w.heap.size, 3, none⟩ (.slice none 0 0)) (w.heap.size + 3) (.slice la ln lc) (.slice sa sn sc) ms ss) :=
          ⟨blk_set (blk_set (blk_set (blk_set J.out.a 0 _) 1 _) 2 _) 3 _, Below.setCell (Below.setCell (Below.setCell (Below.setCell J.out.g (p := ⟨w.heap.size, 0, none⟩) (Nat.le_refl _) _) (p := ⟨w.heap.size, 1, none⟩) (Nat.le_refl _) _) (p := ⟨w.heap.size, 2, none⟩) (Nat.le_refl _) _) (p := ⟨w.heap.size, 3, none⟩) (Nat.le_refl _) _, J.out.m.kept fun g hg _ => (blk_far (by omega) 3 _).trans ((blk_far (by omega) 2 _).trans ((blk_far (by omega) 1 _).trans (blk_far (by omega) 0 _)))⟩
        clear J
        go_wp2_with fail
        generalize ((((w6.setCell ⟨w.heap.size, 0, none⟩ (.int .i64 0)).setCell ⟨w.heap.size, 1, none⟩ (.int .i64 0)).setCell ⟨w.heap.size, 2, none⟩ (.slice none 0 0)).setCell ⟨w.heap.size, 3, none⟩ (.slice none 0 0)) = wf at AF ⊢
        have d0 := (blk_cell AF.out.1 0 (x := .int .i64 0) rfl).1
        have d1 := (blk_cell AF.out.1 1 (x := .int .i64 0) rfl).1
        have d2 := (blk_cell AF.out.1 2 (x := .slice none 0 0) rfl).1
        have d3 := (blk_cell AF.out.1 3 (x := .slice none 0 0) rfl).1
        refine bodyPost_ret (v := .tuple #[.agg #[.int .i64 0, .int .i64 0, .slice none 0 0, .slice none 0 0], .int .i64 3]) (by simp [results, Try.results55, go_sem, d0, d1, d2, d3]) rfl ?_
        exact ⟨.slice none 0 0, .slice none 0 0, [], by rw [HN.out.1, HN.out.2]; rfl, ⟨by rw [HN.out.2]; rfl, by rw [HN.out.2]; exact Mem.nil _ _⟩, AF.out.2.1⟩
      case true =>
        have HN : Hid (rtC xs = 0 ∧ rtT xs = ⟨tm, nx, ls, ss⟩) := HGD.out HOK2.out
        have y0 := (blk_cell J.out.x 0 (x := .int .i64 tm) rfl).1
        obtain ⟨zc0, zf0⟩ := blk_cell J.out.a 0 (x := .int .i64 0) rfl
        have y1 := (blk_cell J.out.x 1 (x := .int .i64 nx) rfl).1
        obtain ⟨zc1, zf1⟩ := blk_cell J.out.a 1 (x := .int .i64 0) rfl
        have y2 := (blk_cell J.out.x 2 (x := .slice la ln lc) rfl).1
        obtain ⟨zc2, zf2⟩ := blk_cell J.out.a 2 (x := .slice none 0 0) rfl
        have y3 := (blk_cell J.out.x 3 (x := .slice sa sn sc) rfl).1
        obtain ⟨zc3, zf3⟩ := blk_cell J.out.a 3 (x := .slice none 0 0) rfl
        have AF : Hid (((((w6.setCell ⟨w.heap.size, 0, none⟩ (.int .i64 tm)).setCell ⟨w.heap.size, 1, none⟩ (.int .i64 nx)).setCell ⟨w.heap.size, 2, none⟩ (.slice la ln lc)).setCell ⟨w.heap.size, 3, none⟩ (.slice sa sn sc)).heap[w.heap.size]? = some (.cells #[.int .i64 tm, .int .i64 nx, .slice la ln lc, .slice sa sn sc] 31 (0, 0)) ∧ Below w.heap.size w ((((w6.setCell ⟨w.heap.size, 0, none⟩ (.int .i64 tm)).setCell ⟨w.heap.size, 1, none⟩ (.int .i64 nx)).setCell ⟨w.heap.size, 2, none⟩ (.slice la ln lc)).setCell ⟨w.heap.size, 3, none⟩ (.slice sa sn sc)) ∧ Mem ((((w6.setCell ⟨w.heap.size, 0, none⟩ (.int .i64 tm)).setCell ⟨w.heap.size, 1, none⟩ (.int .i64 nx)).setCell ⟨w.heap.size, 2, none⟩ (.slice la ln lc)).setCell ⟨w.heap.size, 3, none⟩ (.slice sa sn sc)) (w.heap.size + 3) (.slice la ln lc) (.slice sa sn sc) ms ss) :=
          ⟨blk_set (blk_set (blk_set (blk_set J.out.a 0 _) 1 _) 2 _) 3 _, Below.setCell (Below.setCell (Below.setCell (Below.setCell J.out.g (p := ⟨w.heap.size, 0, none⟩) (Nat.le_refl _) _) (p := ⟨w.heap.size, 1, none⟩) (Nat.le_refl _) _) (p := ⟨w.heap.size, 2, none⟩) (Nat.le_refl _) _) (p := ⟨w.heap.size, 3, none⟩) (Nat.le_refl _) _, J.out.m.kept fun g hg _ => (blk_far (by omega) 3 _).trans ((blk_far (by omega) 2 _).trans ((blk_far (by omega) 1 _).trans (blk_far (by omega) 0 _)))⟩
        clear J
        go_wp2_with fail
        generalize ((((w6.setCell ⟨w.heap.size, 0, none⟩ (.int .i64 tm)).setCell ⟨w.heap.size, 1, none⟩ (.int .i64 nx)).setCell ⟨w.heap.size, 2, none⟩ (.slice la ln lc)).setCell ⟨w.heap.size, 3, none⟩ (.slice sa sn sc)) = wf at AF ⊢
        have d0 := (blk_cell AF.out.1 0 (x := .int .i64 tm) rfl).1
        have d1 := (blk_cell AF.out.1 1 (x := .int .i64 nx) rfl).1
        have d2 := (blk_cell AF.out.1 2 (x := .slice la ln lc) rfl).1
        have d3 := (blk_cell AF.out.1 3 (x := .slice sa sn sc) rfl).1
        refine bodyPost_ret (v := .tuple #[.agg #[.int .i64 tm, .int .i64 nx, .slice la ln lc, .slice sa sn sc], .int .i64 0]) (by simp [results, Try.results55, go_sem, d0, d1, d2, d3]) rfl ?_
        exact ⟨_, _, ms, by rw [HN.out.1, HN.out.2]; rfl, ⟨by rw [HN.out.2]; exact HML.out, by rw [HN.out.2]; exact AF.out.2.2.mono (by omega)⟩, AF.out.2.1⟩
set_option maxRecDepth 100000 in
set_option maxHeartbeats 1600000 in
theorem implReadTable_any (v : Value) (xs : List Int) (w : World) (h : RowB w v xs) :
    Calls Try.prog 26 #[v] w fun e w' => ∃ u2 u3 ms, e = .returned (.tuple #[tabV (rtT xs).tm (rtT xs).nx u2 u3, .int .i64 (rtC xs)]) ∧ (ms.map (·.1) = (rtT xs).ls ∧ Mem w' w.heap.size u2 u3 ms (rtT xs).ss) ∧ Below w.heap.size w w' := by
  have HJ : Hid (Calls Try.prog 55 #[v, .func (Fn.func 56) #[] #[], .func (Fn.func 11) #[] #[]] (w.alloc (.cells #[.int .i64 0, .int .i64 0, .slice none 0 0, .slice none 0 0] 31)) fun e w' => ∃ u2 u3 ms, e = .returned (.tuple #[tabV (rtT xs).tm (rtT xs).nx u2 u3, .int .i64 (rtC xs)]) ∧ (ms.map (·.1) = (rtT xs).ls ∧ Mem w' (w.heap.size + 1) u2 u3 ms (rtT xs).ss) ∧ Below (w.heap.size + 1) (w.alloc (.cells #[.int .i64 0, .int .i64 0, .slice none 0 0, .slice none 0 0] 31)) w') := by
    have := readJust_any v xs (w.alloc (.cells #[.int .i64 0, .int .i64 0, .slice none 0 0, .slice none 0 0] 31)) (h.below ((Below.refl _ _).alloc (Nat.le_refl _) _))
    rw [size_new] at this
    exact this
  obtain ⟨⟨tm, nx, ls, ss⟩, HT⟩ : ∃ t, Hid (rtT xs = t) := ⟨_, rfl⟩
  obtain ⟨RC, HC⟩ : ∃ c, Hid (rtC xs = c) := ⟨_, rfl⟩
  rw [HT.out, HC.out] at HJ
  rw [HT.out, HC.out]
  dsimp only at HJ ⊢
  clear h HT HC
  go_enter Try.func26, Try.ntmps26
  go_wp2_with fail
  refine HJ.out.mono ?_
  rintro e w1 ⟨u2, u3, ms, rfl, hm, b1⟩
  obtain ⟨la, lc, rfl⟩ := hm.2.ol.slice
  obtain ⟨sa, sc, rfl⟩ := hm.2.os.slice
  have A1 : w1.heap[w.heap.size]? = some (.cells #[.int .i64 0, .int .i64 0, .slice none 0 0, .slice none 0 0] 31 (0, 0)) := (b1.block _ (by omega)).trans (heap_alloc_new w _)
  have G1 : Hid (Below w.heap.size w w1 ∧ ms.map (·.1) = ls ∧ Mem w1 (w.heap.size + 1) (.slice la ms.length lc) (.slice sa ss.length sc) ms ss) := ⟨((Below.refl _ _).alloc (Nat.le_refl _) _).trans (b1.mono (by omega)), hm.1, hm.2⟩
  obtain ⟨ln, HLN⟩ : ∃ ln, Hid (ms.length = ln) := ⟨_, rfl⟩
  obtain ⟨sn, HSN⟩ : ∃ sn, Hid (ss.length = sn) := ⟨_, rfl⟩
  rw [HLN.out, HSN.out] at G1 ⊢
  unfold tabV
  clear hm b1 HJ
  obtain ⟨zc0, zf0⟩ := blk_cell A1 0 (x := .int .i64 0) rfl
  obtain ⟨zc1, zf1⟩ := blk_cell A1 1 (x := .int .i64 0) rfl
  obtain ⟨zc2, zf2⟩ := blk_cell A1 2 (x := .slice none 0 0) rfl
  obtain ⟨zc3, zf3⟩ := blk_cell A1 3 (x := .slice none 0 0) rfl
  have AF : Hid (((((w1.setCell ⟨w.heap.size, 0, none⟩ (.int .i64 tm)).setCell ⟨w.heap.size, 1, none⟩ (.int .i64 nx)).setCell ⟨w.heap.size, 2, none⟩ (.slice la ln lc)).setCell ⟨w.heap.size, 3, none⟩ (.slice sa sn sc)).heap[w.heap.size]? = some (.cells #[.int .i64 tm, .int .i64 nx, .slice la ln lc, .slice sa sn sc] 31 (0, 0)) ∧ Below w.heap.size w ((((w1.setCell ⟨w.heap.size, 0, none⟩ (.int .i64 tm)).setCell ⟨w.heap.size, 1, none⟩ (.int .i64 nx)).setCell ⟨w.heap.size, 2, none⟩ (.slice la ln lc)).setCell ⟨w.heap.size, 3, none⟩ (.slice sa sn sc)) ∧ ms.map (·.1) = ls ∧ Mem ((((w1.setCell ⟨w.heap.size, 0, none⟩ (.int .i64 tm)).setCell ⟨w.heap.size, 1, none⟩ (.int .i64 nx)).setCell ⟨w.heap.size, 2, none⟩ (.slice la ln lc)).setCell ⟨w.heap.size, 3, none⟩ (.slice sa sn sc)) (w.heap.size + 1) (.slice la ln lc) (.slice sa sn sc) ms ss) :=
    ⟨blk_set (blk_set (blk_set (blk_set A1 0 _) 1 _) 2 _) 3 _, Below.setCell (Below.setCell (Below.setCell (Below.setCell G1.out.1 (p := ⟨w.heap.size, 0, none⟩) (Nat.le_refl _) _) (p := ⟨w.heap.size, 1, none⟩) (Nat.le_refl _) _) (p := ⟨w.heap.size, 2, none⟩) (Nat.le_refl _) _) (p := ⟨w.heap.size, 3, none⟩) (Nat.le_refl _) _, G1.out.2.1, G1.out.2.2.kept fun g hg _ => (blk_far (by omega) 3 _).trans ((blk_far (by omega) 2 _).trans ((blk_far (by omega) 1 _).trans (blk_far (by omega) 0 _)))⟩
  clear G1 A1
  go_wp2_with fail
  generalize ((((w1.setCell ⟨w.heap.size, 0, none⟩ (.int .i64 tm)).setCell ⟨w.heap.size, 1, none⟩ (.int .i64 nx)).setCell ⟨w.heap.size, 2, none⟩ (.slice la ln lc)).setCell ⟨w.heap.size, 3, none⟩ (.slice sa sn sc)) = wf at AF ⊢
  have d0 := (blk_cell AF.out.1 0 (x := .int .i64 tm) rfl).1
  have d1 := (blk_cell AF.out.1 1 (x := .int .i64 nx) rfl).1
  have d2 := (blk_cell AF.out.1 2 (x := .slice la ln lc) rfl).1
  have d3 := (blk_cell AF.out.1 3 (x := .slice sa sn sc) rfl).1
  exact bodyPost_ret (v := .tuple #[.agg #[.int .i64 tm, .int .i64 nx, .slice la ln lc, .slice sa sn sc], .int .i64 RC]) (by simp [results, Try.results26, go_sem, d0, d1, d2, d3]) rfl ⟨_, _, ms, rfl, ⟨AF.out.2.2.1, AF.out.2.2.2.mono (by omega)⟩, AF.out.2.1⟩
end Go.Proofs.Ytkjbdemhpnhagaa.Ur
