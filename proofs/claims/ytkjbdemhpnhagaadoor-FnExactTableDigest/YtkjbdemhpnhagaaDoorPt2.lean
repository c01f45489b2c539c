/- TableBytes of the program. -/
import Derived.Test.YtkjbdemhpnhagaaDoorPt
namespace Go.Proofs.YtkjbdemhpnhagaaDoor.Pt
open Go.RowKit Go.Proofs.YtkjbdemhpnhagaaDoor.Sl Go.Proofs.YtkjbdemhpnhagaaDoor.By Go.Proofs.YtkjbdemhpnhagaaDoor.Ap Go.Proofs.YtkjbdemhpnhagaaDoor.Tx Go.Proofs.YtkjbdemhpnhagaaDoor.Tb Go.Proofs.YtkjbdemhpnhagaaDoor.Tw Go.Proofs.YtkjbdemhpnhagaaDoor.Rq Go.Proofs.YtkjbdemhpnhagaaDoor.Tp Go.Proofs.YtkjbdemhpnhagaaDoor.Pu

theorem ret_tup {v : Value} {a b : Int} (h : a = b) : Ending.returned (.tuple #[v, .int .i64 a]) = .returned (.tuple #[v, .int .i64 b]) := by rw [h]
/-- What TableBytes answers. -/
noncomputable def tbOut (tm nx : Int) (ls : List Lk) (ss : List Sn) : List Int := if bOf (TOK ⟨tm, nx, ls, ss⟩) then tabBs tm nx ls ss else []
noncomputable def tbCode (tm nx : Int) (ls : List Lk) (ss : List Sn) : Int := if bOf (TOK ⟨tm, nx, ls, ss⟩) then 0 else 1
/-- What a right table's parts are bounded by. -/
def Bnd (ls : List Lk) (ss : List Sn) : Prop := ls.length ≤ 4 ∧ ss.length ≤ 6 ∧ (∀ x ∈ ls, x.n.size ≤ 12 ∧ x.ws.length ≤ 4 ∧ -1 ≤ x.h ∧ x.h ≤ 255) ∧ ∀ x ∈ ss, -1 ≤ x.h ∧ x.h ≤ 255
theorem op_size {n : ByteArray} (h : opB n = true) : n.size ≤ 12 := by unfold opB at h; simp at h; exact h.1
theorem tok_bnd {tm nx : Int} {ls : List Lk} {ss : List Sn} (h : TOK ⟨tm, nx, ls, ss⟩) : Bnd ls ss := by
  obtain ⟨_, _, h3, h4, h5, h6⟩ := h
  refine ⟨h3, h5, fun x hx => ?_, fun x hx => ?_⟩
  · obtain ⟨i, hi, rfl⟩ := List.mem_iff_getElem.1 hx
    obtain ⟨_, g2, _, g4⟩ := h4 i _ (List.getElem?_eq_getElem hi)
    refine ⟨op_size g2, ?_⟩
    rcases g4 with ⟨g, _, k⟩ | ⟨_, g, _, k, _⟩
    · omega
    · have := inB_le g; omega
  · obtain ⟨i, hi, rfl⟩ := List.mem_iff_getElem.1 hx
    exact inB_le (h6 i _ (List.getElem?_eq_getElem hi)).2.2.2.2.1
theorem tok_true {p : Prop} (h : bOf p = true) : p := Classical.byContradiction fun hn => by rw [bOf_false hn] at h; cases h
theorem take_le {α : Type} {xs : List α} {p : α → Prop} (h : ∀ x ∈ xs, p x) (k : Nat) : ∀ x ∈ xs.take k, p x := fun x hx => h x (List.mem_of_mem_take hx)
set_option maxRecDepth 100000 in
set_option maxHeartbeats 3200000 in
theorem implTableBytes_any (tm nx : Int) (vl vs : Value) (ls : List Lk) (ss : List Sn) (w : World) (hl : RowL w vl ls) (hs : RowS w vs ss) (hw : ∀ x ∈ ls, x.n.size ≤ 1048576 ∧ x.ws.length ≤ 1048576) (hy1 : ls.length ≤ 1048576) (hy2 : ss.length ≤ 1048576) :
    Calls Tryd.prog 16 #[tabV tm nx vl vs] w fun e w' => ∃ v, e = .returned (.tuple #[v, .int .i64 (tbCode tm nx ls ss)]) ∧ OwnB 5 w' w.heap.size v (tbOut tm nx ls ss) ∧ Below w.heap.size w w' := by
  obtain ⟨la, lc, rfl⟩ := RowG.slice hl
  obtain ⟨sa, sc, rfl⟩ := RowG.slice hs
  have HX : Hid (∀ W, Below (w.alloc (.cells #[.int .i64 tm, .int .i64 nx, .slice la ls.length lc, .slice sa ss.length sc] 32)).heap.size (w.alloc (.cells #[.int .i64 tm, .int .i64 nx, .slice la ls.length lc, .slice sa ss.length sc] 32)) W → (W.cell? ⟨w.heap.size, 0, none⟩ = some (.int .i64 tm) ∧ W.cell? ⟨w.heap.size, 1, none⟩ = some (.int .i64 nx) ∧ W.cell? ⟨w.heap.size, 2, none⟩ = some (.slice la ls.length lc) ∧ W.cell? ⟨w.heap.size, 3, none⟩ = some (.slice sa ss.length sc)) ∧ RowL W (.slice la ls.length lc) ls ∧ RowS W (.slice sa ss.length sc) ss ∧ w.heap.size < W.heap.size ∧ Below w.heap.size w W) := fun W hW => by
    have h1 := (hW.block w.heap.size (by simp)).trans (heap_alloc_new w _)
    exact ⟨⟨(blk_cell h1 0 rfl).1, (blk_cell h1 1 rfl).1, (blk_cell h1 2 rfl).1, (blk_cell h1 3 rfl).1⟩, (hl.below (bel_new _ _)).below hW, (hs.below (bel_new _ _)).below hW, (Array.getElem?_eq_some_iff.1 h1).1, (bel_new w _).trans (hW.mono (by simp))⟩
  have HOK : Hid (∀ W, Below w.heap.size w W → RowL W (.slice la ls.length lc) ls → RowS W (.slice sa ss.length sc) ss → Calls Tryd.prog 29 #[.agg #[.int .i64 tm, .int .i64 nx, .slice la ls.length lc, .slice sa ss.length sc]] W fun e w' => e = .returned (.bool (bOf (TOK ⟨tm, nx, ls, ss⟩))) ∧ Below W.heap.size W w') := fun W _ h1 h2 => implTableOK_any tm nx _ _ ls ss W h1 h2 hw hy1 hy2
  clear hl hs hw
  unfold tabV
  cases htk : bOf (TOK ⟨tm, nx, ls, ss⟩) with
  | false =>
    have HC : Hid (tbCode tm nx ls ss = 1 ∧ tbOut tm nx ls ss = []) := ⟨by unfold tbCode; rw [htk]; rfl, by unfold tbOut; rw [htk]; rfl⟩
    rw [htk] at HOK
    clear htk
    go_enter Tryd.func16, Tryd.ntmps16
    go_upto_region 1 with fail
    generalize w.alloc (.cells #[.int .i64 tm, .int .i64 nx, .slice la ls.length lc, .slice sa ss.length sc] 32) = wb at HX ⊢
    obtain ⟨⟨x0, x1, x2, x3⟩, r1, r2, _, rb⟩ := HX.out wb (Below.refl _ _)
    have HR : Hid (RowL wb (.slice la ls.length lc) ls ∧ RowS wb (.slice sa ss.length sc) ss ∧ Below w.heap.size w wb) := ⟨r1, r2, rb⟩
    clear r1 r2 rb
    go_wp2_with fail
    refine (HOK.out _ HR.out.2.2 HR.out.1 HR.out.2.1).mono ?_
    rintro e w1 ⟨rfl, b1⟩
    have HB1 : Hid (Below w.heap.size w w1) := HR.out.2.2.trans (b1.mono HR.out.2.2.size)
    clear b1
    go_wp2_with fail
    go_ret2
    exact ⟨_, ret_tup HC.out.1.symm, by rw [HC.out.2]; exact own_nil _ _ _, HB1.out⟩
  | true =>
    have HC : Hid (tbCode tm nx ls ss = 0 ∧ tbOut tm nx ls ss = tabBs tm nx ls ss) := ⟨by unfold tbCode; rw [htk]; rfl, by unfold tbOut; rw [htk]; rfl⟩
    have HBD : Hid (Bnd ls ss) := tok_bnd (tok_true htk)
    rw [htk] at HOK
    clear htk
    go_enter Tryd.func16, Tryd.ntmps16
    go_upto_region 1 with fail
    generalize w.alloc (.cells #[.int .i64 tm, .int .i64 nx, .slice la ls.length lc, .slice sa ss.length sc] 32) = wb at HX ⊢
    obtain ⟨⟨x0, x1, x2, x3⟩, r1, r2, _, rb⟩ := HX.out wb (Below.refl _ _)
    have HR : Hid (RowL wb (.slice la ls.length lc) ls ∧ RowS wb (.slice sa ss.length sc) ss ∧ Below w.heap.size w wb) := ⟨r1, r2, rb⟩
    clear r1 r2 rb
    go_wp2_with fail
    refine (HOK.out _ HR.out.2.2 HR.out.1 HR.out.2.1).mono ?_
    rintro e w1 ⟨rfl, b1⟩
    have HX1 : Hid (∀ W, Below w1.heap.size w1 W → (W.cell? ⟨w.heap.size, 0, none⟩ = some (.int .i64 tm) ∧ W.cell? ⟨w.heap.size, 1, none⟩ = some (.int .i64 nx) ∧ W.cell? ⟨w.heap.size, 2, none⟩ = some (.slice la ls.length lc) ∧ W.cell? ⟨w.heap.size, 3, none⟩ = some (.slice sa ss.length sc)) ∧ RowLB w1.heap.size W (.slice la ls.length lc) ls ∧ RowSB w1.heap.size W (.slice sa ss.length sc) ss ∧ Below w.heap.size w W) := fun W hW => by
      obtain ⟨k1, _, _, _, k5⟩ := HX.out W (b1.trans (hW.mono b1.size))
      obtain ⟨_, k2, k3, _, _⟩ := HX.out w1 b1
      exact ⟨k1, (RowL.low k2).below hW, (RowS.low k3).below hW, k5⟩
    have HS1 : Hid (w.heap.size ≤ w1.heap.size) := (HR.out.2.2.trans (b1.mono HR.out.2.2.size)).size
    clear b1 HR HX x0 x1 x2 x3 HOK
    obtain ⟨⟨x0, x1, x2, x3⟩, _⟩ := HX1.out w1 (Below.refl _ _)
    go_wp2_with fail
    refine (putNumber_any (.slice none 0 0) [] tm 4 w1.heap.size _ (own_nil _ _ _) (Nat.le_refl _) (by decide) (by simp)).mono ?_
    rintro e w2 ⟨v2, rfl, o2, k2⟩
    have B2 : Hid (Below w1.heap.size w1 w2) := k2.nil
    have O2 : Hid (OwnB 5 w2 w1.heap.size v2 (nums tm 4 4)) := (show OwnB 5 w2 w1.heap.size v2 (nums tm 4 4) from by simpa using o2)
    clear o2 k2 x0 x1 x2 x3
    obtain ⟨⟨x0, x1, x2, x3⟩, _⟩ := HX1.out w2 B2.out
    go_wp2_with fail
    refine (putNumber_any _ _ nx 3 w1.heap.size _ O2.out B2.out.size (by decide) (by rw [nums_length]; decide)).mono ?_
    rintro e w3 ⟨v3, rfl, o3, k3⟩
    have B3 : Hid (Below w1.heap.size w1 w3) := B2.out.trans (k3.below O2.out B2.out.size)
    have O3 : Hid (OwnB 5 w3 w1.heap.size v3 (nums tm 4 4 ++ nums nx 3 3)) := o3
    clear o3 k3 x0 x1 x2 x3 O2 B2
    obtain ⟨⟨x0, x1, x2, x3⟩, _⟩ := HX1.out w3 B3.out
    go_wp2_with fail
    refine (putNumber_any _ _ _ 1 w1.heap.size _ O3.out B3.out.size (by decide) (by rw [List.length_append, nums_length, nums_length]; decide)).mono ?_
    rintro e w4 ⟨v4, rfl, o4, k4⟩
    have B4 : Hid (Below w1.heap.size w1 w4) := B3.out.trans (k4.below O3.out B3.out.size)
    obtain ⟨ys, HYS⟩ : ∃ ys, Hid (nums tm 4 4 ++ nums nx 3 3 ++ nums (ls.length : Int) 1 1 = ys) := ⟨_, rfl⟩
    have HYL : Hid (ys.length = 8) := by show _ = _; rw [← HYS.out]; simp only [List.length_append, nums_length]
    have O4 : Hid (OwnB 5 w4 w1.heap.size v4 ys) := by show OwnB _ _ _ _ _; rw [← HYS.out]; exact o4
    clear o4 k4 x0 x1 x2 x3 O3 B3
    obtain ⟨⟨x0, x1, x2, x3⟩, _⟩ := HX1.out w4 B4.out
    go_wp2_with fail
    clear x0 x1 x2 x3
    go_loopw [4, 27] (fun b i wr => ∃ k : Nat, k ≤ ls.length ∧ i = .int .i64 k ∧ Hid (OwnB 5 wr w1.heap.size b (ys ++ lsBs (ls.take k)) ∧ Below w1.heap.size w1 wr)) (fun _ i _ => ls.length - (intOf i).toNat)
    case atStart => exact ⟨0, by omega, rfl, ⟨by simpa [lsBs] using O4.out, B4.out⟩⟩
    case round =>
      clear O4 B4
      obtain ⟨k, hk, rfl, HO⟩ := hrel
      by_cases hlt : k < ls.length
      · obtain ⟨x, hx⟩ := Tw.get_at hlt
        obtain ⟨b, off, rfl, hbl, hbB, u, c0, c1, c2, c3, c4, c5⟩ := RowG.at (HX1.out _ HO.out.2).2.1 rfl hx
        obtain ⟨ua, uc, rfl⟩ := RowG.slice c5
        have HT : Hid (lsBs (ls.take (k + 1)) = lsBs (ls.take k) ++ lkBs x) := take_bs lkBs hx
        have HXB : Hid (x.n.size ≤ 12 ∧ x.ws.length ≤ 4 ∧ -1 ≤ x.h ∧ x.h ≤ 255) := HBD.out.2.2.1 x (mem_at hx)
        have HLN : Hid ((ys ++ lsBs (ls.take k)).length ≤ 1000) := by
          show _ ≤ _
          have h1 := lsBs_le (ls.take k) (take_le (fun x hx => ⟨(HBD.out.2.2.1 x hx).1, (HBD.out.2.2.1 x hx).2.1⟩) k)
          have h2 := HBD.out.1
          rw [List.length_append, HYL.out]
          rw [List.length_take] at h1
          omega
        have HUB : Hid (RowWB w1.heap.size wr (.slice ua x.ws.length uc) x.ws) := c5
        have HBN : Hid (Below w1.heap.size w1 (wr.alloc (.cells #[.string x.n, .int .i64 x.t, .int .i64 x.h, .int .i64 x.e, .slice ua x.ws.length uc] 56)) ∧ Below w1.heap.size wr (wr.alloc (.cells #[.string x.n, .int .i64 x.t, .int .i64 x.h, .int .i64 x.e, .slice ua x.ws.length uc] 56))) := ⟨HO.out.2.trans ((bel_new wr _).mono HO.out.2.size), (bel_new wr _).mono HO.out.2.size⟩
        clear hx c5
        go_wp2_with fail
        refine (putLock_any _ _ x _ w1.heap.size _ (own_alloc HO.out.1 _) HBN.out.1.size (by have := HLN.out; omega) HXB.out.2.2 (by have := HXB.out.1; omega) (by have := HXB.out.2.1; omega) (HUB.out.below HBN.out.2)).mono ?_
        rintro e w5 ⟨v5, rfl, o5, k5⟩
        have O5 : Hid (OwnB 5 w5 w1.heap.size v5 (ys ++ lsBs (ls.take (k + 1))) ∧ Below w1.heap.size w1 w5) := ⟨by rw [HT.out, ← List.append_assoc]; exact o5, HBN.out.1.trans (k5.below (own_alloc HO.out.1 _) HBN.out.1.size)⟩
        clear o5 k5 c0 c1 c2 c3 c4
        go_wp2_with fail
        exact ⟨⟨k + 1, by omega, by go_num, O5⟩, by simp [intOf]; omega⟩
      · obtain rfl : k = ls.length := by omega
        rw [List.take_length] at HO
        obtain ⟨⟨x0, x1, x2, x3⟩, _⟩ := HX1.out wr HO.out.2
        have HLN : Hid ((ys ++ lsBs ls).length ≤ 1000) := by
          show _ ≤ _
          have h1 := lsBs_le ls (fun x hx => ⟨(HBD.out.2.2.1 x hx).1, (HBD.out.2.2.1 x hx).2.1⟩)
          have h2 := HBD.out.1
          rw [List.length_append, HYL.out]
          omega
        go_wp2_with fail
        refine (putNumber_any _ _ _ 1 w1.heap.size _ HO.out.1 HO.out.2.size (by decide) (by have := HLN.out; omega)).mono ?_
        rintro e w6 ⟨v6, rfl, o6, k6⟩
        have B6 : Hid (Below w1.heap.size w1 w6) := HO.out.2.trans (k6.below HO.out.1 HO.out.2.size)
        obtain ⟨zs, HZS⟩ : ∃ zs, Hid (ys ++ lsBs ls ++ nums (ss.length : Int) 1 1 = zs) := ⟨_, rfl⟩
        have HZL : Hid (zs.length ≤ 1001) := by show _ ≤ _; rw [← HZS.out, List.length_append, nums_length]; have := HLN.out; omega
        have O6 : Hid (OwnB 5 w6 w1.heap.size v6 zs) := by show OwnB _ _ _ _ _; rw [← HZS.out]; exact o6
        clear o6 k6 x0 x1 x2 x3 HO
        obtain ⟨⟨x0, x1, x2, x3⟩, _⟩ := HX1.out w6 B6.out
        go_wp2_with fail
        clear x0 x1 x2 x3
        go_loopw [4, 43] (fun b i wr => ∃ k : Nat, k ≤ ss.length ∧ i = .int .i64 k ∧ Hid (OwnB 5 wr w1.heap.size b (zs ++ ssBs (ss.take k)) ∧ Below w1.heap.size w1 wr)) (fun _ i _ => ss.length - (intOf i).toNat)
        case atStart => exact ⟨0, by omega, rfl, ⟨by simpa [ssBs] using O6.out, B6.out⟩⟩
        case round =>
          clear O6 B6
          obtain ⟨k, hk, rfl, HO⟩ := hrel
          by_cases hlt : k < ss.length
          · obtain ⟨x, hx⟩ := Tw.get_at hlt
            obtain ⟨b, off, rfl, hbl, hbB, c0, c1, c2, c3, c4, c5⟩ := RowG.at (HX1.out _ HO.out.2).2.2.1 rfl hx
            have HT : Hid (ssBs (ss.take (k + 1)) = ssBs (ss.take k) ++ snBs x) := take_bs snBs hx
            have HXB : Hid (-1 ≤ x.h ∧ x.h ≤ 255) := HBD.out.2.2.2 x (mem_at hx)
            have HLN2 : Hid ((zs ++ ssBs (ss.take k)).length ≤ 2000) := by
              show _ ≤ _
              have h2 := HBD.out.2.1
              have h3 := HZL.out
              rw [List.length_append, ssBs_len, List.length_take]
              omega
            have HBN : Hid (Below w1.heap.size w1 (wr.alloc (.cells #[.int .i64 x.c, .int .i64 x.s, .int .i64 x.k, .int .i64 x.t, .int .i64 x.h, .int .i64 x.e] 63))) := HO.out.2.trans ((bel_new wr _).mono HO.out.2.size)
            clear hx
            go_wp2_with fail
            refine (putSeen_any _ _ x w1.heap.size _ (own_alloc HO.out.1 _) HBN.out.size (by have := HLN2.out; omega) HXB.out).mono ?_
            rintro e w7 ⟨v7, rfl, o7, k7⟩
            have O7 : Hid (OwnB 5 w7 w1.heap.size v7 (zs ++ ssBs (ss.take (k + 1))) ∧ Below w1.heap.size w1 w7) := ⟨by rw [HT.out, ← List.append_assoc]; exact o7, HBN.out.trans (k7.below (own_alloc HO.out.1 _) HBN.out.size)⟩
            clear o7 k7 c0 c1 c2 c3 c4 c5
            go_wp2_with fail
            exact ⟨⟨k + 1, by omega, by go_num, O7⟩, by simp [intOf]; omega⟩
          · obtain rfl : k = ss.length := by omega
            rw [List.take_length] at HO
            have HE : Hid (zs ++ ssBs ss = tabBs tm nx ls ss) := by show _ = _; rw [← HZS.out, ← HYS.out]; unfold tabBs; simp [List.append_assoc]
            have HFB : Hid (Below w.heap.size w wr) := (HX1.out wr HO.out.2).2.2.2
            go_wp2_with fail
            go_ret2
            exact ⟨_, ret_tup HC.out.1.symm, by rw [HC.out.2, ← HE.out]; exact own_le HO.out.1 HS1.out, HFB.out⟩
end Go.Proofs.YtkjbdemhpnhagaaDoor.Pt
