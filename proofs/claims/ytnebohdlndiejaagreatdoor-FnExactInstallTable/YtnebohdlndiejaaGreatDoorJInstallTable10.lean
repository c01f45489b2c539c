/- Texts put together: Tp, Tp2, Tr, Uv. -/
import Derived.Test.YtnebohdlndiejaaGreatDoorJInstallTable7
import Derived.Laws.Cover1
import Derived.Test.YtnebohdlndiejaaGreatDoorJInstallTable9
/- Tables that are right: the program's parts. -/
namespace Go.Proofs.YtnebohdlndiejaaGreatDoor.Tp
open Go.RowKit Go.Proofs.YtnebohdlndiejaaGreatDoor.Sl Go.Proofs.YtnebohdlndiejaaGreatDoor.Ap Go.Proofs.YtnebohdlndiejaaGreatDoor.Tx Go.Proofs.YtnebohdlndiejaaGreatDoor.Tb Go.Proofs.YtnebohdlndiejaaGreatDoor.Tw Go.Proofs.YtnebohdlndiejaaGreatDoor.Rq

/-- A sentence as a truth value. -/
noncomputable def bOf (p : Prop) : Bool := @decide p (Classical.propDecidable p)
theorem bOf_true {p : Prop} (h : p) : bOf p = true := by unfold bOf; simp [h]
theorem bOf_false {p : Prop} (h : ¬ p) : bOf p = false := by unfold bOf; simp [h]
/-- r is the first place of a client among those that wait, -1 without one. -/
def FstOf (ws : List Wt) (c : Int) (r : Int) : Prop := (r = -1 ∧ ∀ (j : Nat) (y : Wt), ws[j]? = some y → y.c ≠ c) ∨ ∃ (k : Nat) (x : Wt), r = k ∧ ws[k]? = some x ∧ x.c = c ∧ ∀ (j : Nat) (y : Wt), j < k → ws[j]? = some y → y.c ≠ c
def WOne (h : Int) (ws : List Wt) (k : Nat) (x : Wt) : Prop := inB x.c 0 255 = true ∧ inB x.l 1 1000 = true ∧ x.c ≠ h ∧ ∀ (j : Nat) (y : Wt), j < k → ws[j]? = some y → y.c ≠ x.c
def WsOK (h : Int) (ws : List Wt) : Prop := ∀ k x, ws[k]? = some x → WOne h ws k x
def HdOK (l : Lk) : Prop := (l.h = -1 ∧ l.e = 0 ∧ l.ws.length = 0) ∨ (l.h ≠ -1 ∧ inB l.h 0 255 = true ∧ inB l.e 0 2000000000 = true ∧ l.ws.length ≤ 4 ∧ WsOK l.h l.ws)
def pn (ls : List Lk) (i : Nat) : ByteArray := if i = 0 then ⟨#[]⟩ else (ls.getD (i - 1) default).n
def LOne (nx : Int) (p : ByteArray) (l : Lk) : Prop := (Op.bytesLess l.n.toList p.toList || l.n.toList == p.toList) = false ∧ opB l.n = true ∧ inB l.t 0 (nx - 1) = true ∧ HdOK l
def LsOK (nx : Int) (ls : List Lk) : Prop := ∀ i l, ls[i]? = some l → LOne nx (pn ls i) l
def AnsOK (k t h e : Int) : Prop := inB k 1 8 = true ∧ inB t 0 1000000 = true ∧ inB h (-1) 255 = true ∧ inB e 0 2000000000 = true
def pc (ss : List Sn) (i : Nat) : Int := if i = 0 then 0 else (ss.getD (i - 1) default).c + 1
def SOne (p : Int) (s : Sn) : Prop := inB s.c p 255 = true ∧ inB s.s 1 65535 = true ∧ AnsOK s.k s.t s.h s.e
def SsOK (ss : List Sn) : Prop := ∀ i s, ss[i]? = some s → SOne (pc ss i) s
def TOK (t : Tab) : Prop := inB t.tm 0 1000000000 = true ∧ inB t.nx 1 1000000 = true ∧ t.ls.length ≤ 4 ∧ LsOK t.nx t.ls ∧ t.ss.length ≤ 6 ∧ SsOK t.ss
theorem pn_succ {ls : List Lk} {k : Nat} {x : Lk} (h : ls[k]? = some x) : pn ls (k + 1) = x.n := by
  unfold pn
  rw [if_neg (by omega), Nat.add_sub_cancel, List.getD_eq_getElem?_getD, h]
  rfl
theorem pc_succ {ss : List Sn} {k : Nat} {x : Sn} (h : ss[k]? = some x) : pc ss (k + 1) = x.c + 1 := by
  unfold pc
  rw [if_neg (by omega), Nat.add_sub_cancel, List.getD_eq_getElem?_getD, h]
  rfl
theorem inB_le {x a b : Int} (h : inB x a b = true) : a ≤ x ∧ x ≤ b := by unfold inB at h; simpa using h
/-- The rounds so far, and one more. -/
theorem upto {α : Type} {xs : List α} {k : Nat} {P : Nat → α → Prop} (h : ∀ j y, j < k → xs[j]? = some y → P j y) {x : α} (hx : xs[k]? = some x) (hp : P k x) : ∀ j y, j < k + 1 → xs[j]? = some y → P j y := fun j y hj hy => by
  by_cases e : j = k
  · subst e
    rw [hx] at hy
    cases hy
    exact hp
  · exact h j y (by omega) hy

set_option maxRecDepth 100000 in
set_option maxHeartbeats 800000 in
theorem waits1_any (x : Wt) (p : Nat) (c : Int) (w : World) (h : w.cell? ⟨p, 0, none⟩ = some (.int .i64 c)) :
    Calls Tryz.prog 190 #[wtV x, .pointer (some ⟨p, 0, none⟩)] w fun e w' => e = .returned (.bool (x.c == c)) ∧ Below w.heap.size w w' := by
  unfold wtV
  have hp := World.block_lt_of_cell? w _ h
  have h2 : ∀ o, (w.alloc o).cell? ⟨p, 0, none⟩ = some (.int .i64 c) := fun o => (World.cell?_alloc_lt _ _ _ hp).trans h
  go_enter Tryz.func190, Tryz.ntmps190
  go_wp2_with fail
  go_ret
  exact ⟨rfl, bel_new _ _⟩
set_option maxRecDepth 100000 in
set_option maxHeartbeats 800000 in
theorem indexFunc_any (v : Value) (xs : List Wt) (c : Int) (p : Nat) (w : World) (h : RowW w v xs) (hl : xs.length ≤ 1048576) (hc : w.cell? ⟨p, 0, none⟩ = some (.int .i64 c)) :
    Calls Tryz.prog 189 #[v, .func (.func 190) #[] #[.pointer (some ⟨p, 0, none⟩)]] w fun e w' => (∃ r, e = .returned (.int .i64 r) ∧ FstOf xs c r) ∧ Below w.heap.size w w' := by
  have HR : Hid (RowW w v xs ∧ w.cell? ⟨p, 0, none⟩ = some (.int .i64 c)) := ⟨h, hc⟩
  obtain ⟨a, cap, rfl⟩ := RowG.slice h
  clear h hc
  go_enter Tryz.func189, Tryz.ntmps189
  go_wp2_with fail
  go_loopw [8] (fun i wr => ∃ k : Nat, k ≤ xs.length ∧ i = .int .i64 k ∧ Hid ((∀ (j : Nat) (y : Wt), j < k → xs[j]? = some y → y.c ≠ c) ∧ Below w.heap.size w wr)) (fun i _ => xs.length - (intOf i).toNat)
  case atStart => exact ⟨0, by omega, rfl, ⟨fun j y hj => by omega, Below.refl _ _⟩⟩
  case round =>
    obtain ⟨k, hk, rfl, HK⟩ := hrel
    by_cases hlt : k < xs.length
    · obtain ⟨x, hx⟩ := Tw.get_at hlt
      obtain ⟨b, off, rfl, hbl, c0, c1⟩ := RowG.at (HR.out.1.below HK.out.2) rfl hx
      have HX : Hid (xs[k]? = some x ∧ wr.cell? ⟨p, 0, none⟩ = some (.int .i64 c)) := ⟨hx, (HK.out.2.cell (World.block_lt_of_cell? w _ HR.out.2)).trans HR.out.2⟩
      clear hx
      go_wp2_with fail
      refine (waits1_any x p c wr HX.out.2).mono ?_
      rintro e w2 ⟨rfl, b2⟩
      have HB2 : Hid (Below w.heap.size w w2) := HK.out.2.trans (b2.mono HK.out.2.size)
      clear b2
      by_cases he : x.c = c
      · have he' : (x.c == c) = true := by simpa using he
        rw [he']
        have HE : Hid (x.c = c) := he
        clear he he'
        go_wp2_with fail
        go_ret
        exact ⟨⟨_, rfl, Or.inr ⟨k, x, rfl, HX.out.1, HE.out, HK.out.1⟩⟩, HB2.out⟩
      · have he' : (x.c == c) = false := by simpa using he
        rw [he']
        have HE : Hid (x.c ≠ c) := he
        clear he he'
        go_wp2_with fail
        exact ⟨⟨k + 1, by omega, by go_num, ⟨upto (P := fun _ y => y.c ≠ c) HK.out.1 HX.out.1 HE.out, HB2.out⟩⟩, by simp [intOf]; omega⟩
    · obtain rfl : k = xs.length := by omega
      go_wp2_with fail
      go_ret
      exact ⟨⟨_, rfl, Or.inl ⟨rfl, fun j y hy => HK.out.1 j y (lt_at hy) hy⟩⟩, HK.out.2⟩
set_option maxRecDepth 100000 in
set_option maxHeartbeats 800000 in
theorem waitsAt_any (v : Value) (xs : List Wt) (c : Int) (w : World) (h : RowW w v xs) (hl : xs.length ≤ 1048576) :
    Calls Tryz.prog 182 #[v, .int .i64 c] w fun e w' => (∃ r, e = .returned (.int .i64 r) ∧ FstOf xs c r) ∧ Below w.heap.size w w' := by
  have HR : Hid (RowW w v xs) := h
  obtain ⟨a, cap, rfl⟩ := RowG.slice h
  clear h
  have HB : Hid (Below w.heap.size w (w.alloc (.cells #[.int .i64 c] 3))) := bel_new _ _
  have HC : Hid ((w.alloc (.cells #[.int .i64 c] 3)).cell? ⟨w.heap.size, 0, none⟩ = some (.int .i64 c)) := (blk_cell (blk_new w _ _) 0 rfl).1
  go_enter Tryz.func182, Tryz.ntmps182
  go_wp2_with fail
  refine (indexFunc_any _ xs c w.heap.size _ (HR.out.below HB.out) hl HC.out).mono ?_
  rintro e w2 ⟨⟨r, rfl, hr⟩, b2⟩
  have HF : Hid (FstOf xs c r ∧ Below w.heap.size w w2) := ⟨hr, HB.out.trans (b2.mono HB.out.size)⟩
  clear hr b2
  go_wp2_with fail
  go_ret
  exact ⟨⟨_, rfl, HF.out.1⟩, HF.out.2⟩
/-- At a client's own place: is there an earlier one? -/
theorem fst_own {ws : List Wt} {k : Nat} {x : Wt} {r : Int} (hx : ws[k]? = some x) (h : FstOf ws x.c r) : (r < (k : Int)) ↔ ¬ ∀ (j : Nat) (y : Wt), j < k → ws[j]? = some y → y.c ≠ x.c := by
  rcases h with ⟨_, h⟩ | ⟨i, z, rfl, hz, hc, h⟩
  · exact absurd rfl (h k x hx)
  · constructor
    · intro hlt hh
      exact hh i z (by omega) hz hc
    · intro hn
      rcases Nat.lt_or_ge i k with hi | hi
      · omega
      · exact absurd (fun j y hj hy => h j y (by omega) hy) hn
set_option maxRecDepth 100000 in
set_option maxHeartbeats 1600000 in
theorem waitersOK_any (l : Lk) (u : Value) (w : World) (h : RowW w u l.ws) (hl : l.ws.length ≤ 1048576) :
    Calls Tryz.prog 171 #[lkV l u] w fun e w' => e = .returned (.bool (bOf (WsOK l.h l.ws))) ∧ Below w.heap.size w w' := by
  obtain ⟨ln, lt, hh, le, ws⟩ := l
  unfold lkV
  dsimp only at h hl ⊢
  obtain ⟨a, cap, rfl⟩ := RowG.slice h
  have HX : Hid (∀ W, Below (w.alloc (.cells #[.string ln, .int .i64 lt, .int .i64 hh, .int .i64 le, .slice a ws.length cap] 98)).heap.size (w.alloc (.cells #[.string ln, .int .i64 lt, .int .i64 hh, .int .i64 le, .slice a ws.length cap] 98)) W → W.cell? ⟨w.heap.size, 2, none⟩ = some (.int .i64 hh) ∧ W.cell? ⟨w.heap.size, 4, none⟩ = some (.slice a ws.length cap) ∧ RowW W (.slice a ws.length cap) ws ∧ Below w.heap.size w W) := fun W hW => by
    have h1 := (hW.block w.heap.size (by simp)).trans (heap_alloc_new w _)
    exact ⟨(blk_cell h1 2 rfl).1, (blk_cell h1 4 rfl).1, (h.below (bel_new _ _)).below hW, (bel_new w _).trans (hW.mono (by simp))⟩
  clear h
  go_enter Tryz.func171, Tryz.ntmps171
  go_upto_region 1 with fail
  generalize w.alloc (.cells #[.string ln, .int .i64 lt, .int .i64 hh, .int .i64 le, .slice a ws.length cap] 98) = wb at HX ⊢
  obtain ⟨x2, x4, _, _⟩ := HX.out wb (Below.refl _ _)
  go_wp2_with fail
  clear x2 x4
  go_loopw [8] (fun i wr => ∃ k : Nat, k ≤ ws.length ∧ i = .int .i64 k ∧ Hid ((∀ j y, j < k → ws[j]? = some y → WOne hh ws j y) ∧ Below wb.heap.size wb wr)) (fun i _ => ws.length - (intOf i).toNat)
  case atStart => exact ⟨0, by omega, rfl, ⟨fun j y hj => by omega, Below.refl _ _⟩⟩
  case round =>
    obtain ⟨k, hk, rfl, HK⟩ := hrel
    obtain ⟨x2, x4, hr0, hb0⟩ := HX.out wr HK.out.2
    have HB0 : Hid (Below w.heap.size w wr) := hb0
    by_cases hlt : k < ws.length
    · obtain ⟨x, hx⟩ := Tw.get_at hlt
      obtain ⟨b, off, rfl, hbl, c0, c1⟩ := RowG.at hr0 rfl hx
      have HN : Hid (WOne hh ws k x ↔ (inB x.c 0 255 = true ∧ inB x.l 1 1000 = true ∧ x.c ≠ hh ∧ ∀ (j : Nat) (y : Wt), j < k → ws[j]? = some y → y.c ≠ x.c)) := Iff.rfl
      have HNO : Hid (¬ WOne hh ws k x → bOf (WsOK hh ws) = false) := fun h => bOf_false fun hh => h (hh k x hx)
      have HYS : Hid (WOne hh ws k x → ∀ j y, j < k + 1 → ws[j]? = some y → WOne hh ws j y) := fun h => upto (P := fun j y => WOne hh ws j y) HK.out.1 hx h
      have HW : Hid (∀ o, Below wb.heap.size wb (wr.alloc o) ∧ Below w.heap.size w (wr.alloc o)) := fun o => ⟨HK.out.2.trans ((bel_new wr o).mono HK.out.2.size), HB0.out.trans ((bel_new wr o).mono HB0.out.size)⟩
      have y2 : ∀ o, (wr.alloc o).cell? ⟨w.heap.size, 2, none⟩ = some (.int .i64 hh) := fun o => (HX.out _ (HW.out o).1).1
      have y4 : ∀ o, (wr.alloc o).cell? ⟨w.heap.size, 4, none⟩ = some (.slice (some ⟨b, off, none⟩) ws.length cap) := fun o => (HX.out _ (HW.out o).1).2.1
      have HWA : Hid (∀ o, Calls Tryz.prog 182 #[.slice (some ⟨b, off, none⟩) ws.length cap, .int .i64 x.c] (wr.alloc o) fun e w' => (∃ r : Int, e = .returned (.int .i64 r) ∧ decide (r < (k : Int)) = bOf (¬ ∀ (j : Nat) (y : Wt), j < k → ws[j]? = some y → y.c ≠ x.c)) ∧ Below wb.heap.size wb w' ∧ Below w.heap.size w w') := fun o =>
        (waitsAt_any _ ws x.c _ (HX.out _ (HW.out o).1).2.2.1 hl).mono fun e w' ⟨⟨r, he, hf⟩, b2⟩ => ⟨⟨r, he, by
          have := fst_own hx hf
          by_cases hq : ∀ (j : Nat) (y : Wt), j < k → ws[j]? = some y → y.c ≠ x.c
          · rw [bOf_false (fun h => h hq), decide_eq_false (fun h => this.1 h hq)]
          · rw [bOf_true hq, decide_eq_true (this.2 hq)]⟩, (HW.out o).1.trans (b2.mono (HW.out o).1.size), (HW.out o).2.trans (b2.mono (HW.out o).2.size)⟩
      clear hx hr0 hb0 x2 x4
      cases h1 : inB x.c 0 255 with
      | false =>
        have HF : Hid (bOf (WsOK hh ws) = false) := HNO.out fun h => by have := (HN.out.1 h).1; rw [h1] at this; cases this
        go_wp2_with (go_at_call 66; refine (within_any _ _ _ _).mono ?_; rintro e w1 ⟨rfl, rfl⟩; rw [h1])
        go_ret
        exact ⟨ret_bool HF.out.symm, (HW.out _).2⟩
      | true =>
        cases h2 : inB x.l 1 1000 with
        | false =>
          have HF : Hid (bOf (WsOK hh ws) = false) := HNO.out fun h => by have := (HN.out.1 h).2.1; rw [h2] at this; cases this
          go_wp2_with (go_at_call 66; refine (within_any _ _ _ _).mono ?_; rintro e w1 ⟨rfl, rfl⟩; first | rw [h1] | rw [h2])
          go_ret
          exact ⟨ret_bool HF.out.symm, (HW.out _).2⟩
        | true =>
          by_cases h3 : x.c = hh
          · have HF : Hid (bOf (WsOK hh ws) = false) := HNO.out fun h => (HN.out.1 h).2.2.1 h3
            have h3' : (x.c == hh) = true := by simpa using h3
            clear h3
            go_wp2_with (go_at_call 66; refine (within_any _ _ _ _).mono ?_; rintro e w1 ⟨rfl, rfl⟩; first | rw [h1] | rw [h2])
            go_ret
            exact ⟨ret_bool HF.out.symm, (HW.out _).2⟩
          · have h3' : (x.c == hh) = false := by simpa using h3
            cases h4 : bOf (¬ ∀ (j : Nat) (y : Wt), j < k → ws[j]? = some y → y.c ≠ x.c) with
            | true =>
              have HF : Hid (bOf (WsOK hh ws) = false) := HNO.out fun h => by rw [bOf_false (fun hn => hn (HN.out.1 h).2.2.2)] at h4; cases h4
              rw [h4] at HWA
              clear h3 h4
              go_wp2_with (first | (go_at_call 66; refine (within_any _ _ _ _).mono ?_; rintro e w1 ⟨rfl, rfl⟩; first | rw [h1] | rw [h2]) | (go_at_call 182; refine (HWA.out _).mono ?_; rintro e w2 ⟨⟨r, rfl, hd⟩, g1, g2⟩))
              go_ret
              exact ⟨ret_bool HF.out.symm, g2⟩
            | false =>
              have HT : Hid (WOne hh ws k x) := HN.out.2 ⟨h1, h2, h3, Classical.byContradiction fun hn => by rw [bOf_true hn] at h4; cases h4⟩
              rw [h4] at HWA
              clear h3 h4
              go_wp2_with (first | (go_at_call 66; refine (within_any _ _ _ _).mono ?_; rintro e w1 ⟨rfl, rfl⟩; first | rw [h1] | rw [h2]) | (go_at_call 182; refine (HWA.out _).mono ?_; rintro e w2 ⟨⟨r, rfl, hd⟩, g1, g2⟩))
              exact ⟨⟨k + 1, by omega, by go_num, ⟨HYS.out HT.out, g1⟩⟩, by simp [intOf]; omega⟩
    · obtain rfl : k = ws.length := by omega
      have HT : Hid (bOf (WsOK hh ws) = true) := bOf_true fun j y hy => HK.out.1 j y (lt_at hy) hy
      clear hr0 hb0
      go_wp2_with fail
      go_ret
      exact ⟨ret_bool HT.out.symm, HB0.out⟩
end Go.Proofs.YtnebohdlndiejaaGreatDoor.Tp

/- Tables that are right: the program's locks, what was seen, the whole. -/
namespace Go.Proofs.YtnebohdlndiejaaGreatDoor.Tp
open Go.RowKit Go.Proofs.YtnebohdlndiejaaGreatDoor.Sl Go.Proofs.YtnebohdlndiejaaGreatDoor.Ap Go.Proofs.YtnebohdlndiejaaGreatDoor.Tx Go.Proofs.YtnebohdlndiejaaGreatDoor.Tb Go.Proofs.YtnebohdlndiejaaGreatDoor.Tw Go.Proofs.YtnebohdlndiejaaGreatDoor.Rq

set_option maxRecDepth 100000 in
set_option maxHeartbeats 1600000 in
theorem holdOK_any (l : Lk) (u : Value) (w : World) (h : RowW w u l.ws) (hl : l.ws.length ≤ 1048576) :
    Calls Tryz.prog 158 #[lkV l u] w fun e w' => e = .returned (.bool (bOf (HdOK l))) ∧ Below w.heap.size w w' := by
  obtain ⟨a, cap, rfl⟩ := RowG.slice h
  have HD : Hid (HdOK l ↔ ((l.h = -1 ∧ l.e = 0 ∧ l.ws.length = 0) ∨ (l.h ≠ -1 ∧ inB l.h 0 255 = true ∧ inB l.e 0 2000000000 = true ∧ l.ws.length ≤ 4 ∧ WsOK l.h l.ws))) := Iff.rfl
  have HWO : Hid (∀ o, Calls Tryz.prog 171 #[.agg #[.string l.n, .int .i64 l.t, .int .i64 l.h, .int .i64 l.e, .slice a l.ws.length cap]] (w.alloc o) fun e w' => e = .returned (.bool (bOf (WsOK l.h l.ws))) ∧ Below w.heap.size w w') := fun o =>
    (waitersOK_any l _ _ (h.below (bel_new w o)) hl).mono fun e w' ⟨he, hb⟩ => ⟨he, (bel_new w o).trans (hb.mono (bel_new w o).size)⟩
  clear h
  unfold lkV
  by_cases h0 : l.h = -1
  · have h0' : (l.h == -1) = true := by simpa using h0
    by_cases he : l.e = 0
    · have he' : (l.e == 0) = true := by simpa using he
      by_cases hn : l.ws.length = 0
      · have hn' : ((l.ws.length : Int) == 0) = true := by simpa using hn
        have HF : Hid (bOf (HdOK l) = true) := bOf_true (HD.out.2 (.inl ⟨h0, he, hn⟩))
        clear h0 he hn hl
        go_enter Tryz.func158, Tryz.ntmps158
        go_wp2_with fail
        go_ret
        exact ⟨ret_bool HF.out.symm, bel_new _ _⟩
      · have hn' : ((l.ws.length : Int) == 0) = false := by simpa using hn
        have HF : Hid (bOf (HdOK l) = false) := bOf_false fun h => by rcases HD.out.1 h with h | h; exact hn h.2.2; exact h.1 h0
        clear h0 he hn hl
        go_enter Tryz.func158, Tryz.ntmps158
        go_wp2_with fail
        go_ret
        exact ⟨ret_bool HF.out.symm, bel_new _ _⟩
    · have he' : (l.e == 0) = false := by simpa using he
      have HF : Hid (bOf (HdOK l) = false) := bOf_false fun h => by rcases HD.out.1 h with h | h; exact he h.2.1; exact h.1 h0
      clear h0 he hl
      go_enter Tryz.func158, Tryz.ntmps158
      go_wp2_with fail
      go_ret
      exact ⟨ret_bool HF.out.symm, bel_new _ _⟩
  · have h0' : (l.h == -1) = false := by simpa using h0
    have HD2 : Hid (HdOK l ↔ (inB l.h 0 255 = true ∧ inB l.e 0 2000000000 = true ∧ l.ws.length ≤ 4 ∧ WsOK l.h l.ws)) := ⟨fun h => by rcases HD.out.1 h with h | h; exact absurd h.1 h0; exact h.2, fun h => HD.out.2 (.inr ⟨h0, h⟩)⟩
    clear HD h0
    cases h1 : inB l.h 0 255 with
    | false =>
      have HF : Hid (bOf (HdOK l) = false) := bOf_false fun h => by have := (HD2.out.1 h).1; rw [h1] at this; cases this
      clear hl
      go_enter Tryz.func158, Tryz.ntmps158
      go_wp2_with (go_at_call 66; refine (within_any _ _ _ _).mono ?_; rintro e w1 ⟨rfl, rfl⟩; rw [h1])
      go_ret
      exact ⟨ret_bool HF.out.symm, bel_new _ _⟩
    | true =>
      cases h2 : inB l.e 0 2000000000 with
      | false =>
        have HF : Hid (bOf (HdOK l) = false) := bOf_false fun h => by have := (HD2.out.1 h).2.1; rw [h2] at this; cases this
        clear hl
        go_enter Tryz.func158, Tryz.ntmps158
        go_wp2_with (go_at_call 66; refine (within_any _ _ _ _).mono ?_; rintro e w1 ⟨rfl, rfl⟩; first | rw [h1] | rw [h2])
        go_ret
        exact ⟨ret_bool HF.out.symm, bel_new _ _⟩
      | true =>
        by_cases h3 : l.ws.length ≤ 4
        · have h3' : (l.ws.length : Int) ≤ 4 := by omega
          have HF : Hid (bOf (HdOK l) = bOf (WsOK l.h l.ws)) := by
            show _ = _
            by_cases hw : WsOK l.h l.ws
            · rw [bOf_true hw, bOf_true (HD2.out.2 ⟨h1, h2, h3, hw⟩)]
            · rw [bOf_false hw, bOf_false fun h => hw (HD2.out.1 h).2.2.2]
          clear hl
          generalize bOf (WsOK l.h l.ws) = bb at HWO HF
          go_enter Tryz.func158, Tryz.ntmps158
          go_wp2_with (first | (go_at_call 66; refine (within_any _ _ _ _).mono ?_; rintro e w1 ⟨rfl, rfl⟩; first | rw [h1] | rw [h2]) | (go_at_call 171; refine (HWO.out _).mono ?_; rintro e w2 ⟨rfl, g2⟩))
          go_ret
          exact ⟨ret_bool HF.out.symm, g2⟩
        · have h3' : ¬ (l.ws.length : Int) ≤ 4 := by omega
          have h3'' : decide ((l.ws.length : Int) ≤ 4) = false := decide_eq_false h3'
          have HF : Hid (bOf (HdOK l) = false) := bOf_false fun h => h3 (HD2.out.1 h).2.2.1
          clear hl h3
          go_enter Tryz.func158, Tryz.ntmps158
          go_wp2_with (go_at_call 66; refine (within_any _ _ _ _).mono ?_; rintro e w1 ⟨rfl, rfl⟩; first | rw [h1] | rw [h2])
          go_ret
          exact ⟨ret_bool HF.out.symm, bel_new _ _⟩
set_option maxRecDepth 100000 in
set_option maxHeartbeats 1600000 in
theorem answerOK_any (k t h e0 : Int) (w : World) :
    Calls Tryz.prog 172 #[.agg #[.int .i64 k, .int .i64 t, .int .i64 h, .int .i64 e0]] w fun e w' => e = .returned (.bool (bOf (AnsOK k t h e0))) ∧ Below w.heap.size w w' := by
  cases h1 : inB k 1 8 with
  | false =>
    have HF : Hid (bOf (AnsOK k t h e0) = false) := bOf_false fun h => by have := (h.1); rw [h1] at this; cases this
    go_enter Tryz.func172, Tryz.ntmps172
    go_wp2_with (go_at_call 66; refine (within_any _ _ _ _).mono ?_; rintro e w1 ⟨rfl, rfl⟩; rw [h1])
    go_ret
    exact ⟨ret_bool HF.out.symm, bel_new _ _⟩
  | true =>
    cases h2 : inB t 0 1000000 with
    | false =>
      have HF : Hid (bOf (AnsOK k t h e0) = false) := bOf_false fun h => by have := (h.2.1); rw [h2] at this; cases this
      go_enter Tryz.func172, Tryz.ntmps172
      go_wp2_with (go_at_call 66; refine (within_any _ _ _ _).mono ?_; rintro e w1 ⟨rfl, rfl⟩; first | rw [h1] | rw [h2])
      go_ret
      exact ⟨ret_bool HF.out.symm, bel_new _ _⟩
    | true =>
      cases h3 : inB h (-1) 255 with
      | false =>
        have HF : Hid (bOf (AnsOK k t h e0) = false) := bOf_false fun h => by have := (h.2.2.1); rw [h3] at this; cases this
        go_enter Tryz.func172, Tryz.ntmps172
        go_wp2_with (go_at_call 66; refine (within_any _ _ _ _).mono ?_; rintro e w1 ⟨rfl, rfl⟩; first | rw [h1] | rw [h2] | rw [h3])
        go_ret
        exact ⟨ret_bool HF.out.symm, bel_new _ _⟩
      | true =>
        cases h4 : inB e0 0 2000000000 with
        | false =>
          have HF : Hid (bOf (AnsOK k t h e0) = false) := bOf_false fun h => by have := (h.2.2.2); rw [h4] at this; cases this
          go_enter Tryz.func172, Tryz.ntmps172
          go_wp2_with (go_at_call 66; refine (within_any _ _ _ _).mono ?_; rintro e w1 ⟨rfl, rfl⟩; first | rw [h1] | rw [h2] | rw [h3] | rw [h4])
          go_ret
          exact ⟨ret_bool HF.out.symm, bel_new _ _⟩
        | true =>
          have HF : Hid (bOf (AnsOK k t h e0) = true) := bOf_true ⟨h1, h2, h3, h4⟩
          go_enter Tryz.func172, Tryz.ntmps172
          go_wp2_with (go_at_call 66; refine (within_any _ _ _ _).mono ?_; rintro e w1 ⟨rfl, rfl⟩; first | rw [h1] | rw [h2] | rw [h3] | rw [h4])
          go_ret
          exact ⟨ret_bool HF.out.symm, bel_new _ _⟩
set_option maxRecDepth 100000 in
set_option maxHeartbeats 1600000 in
theorem l05Answer_any (k t h e0 : Int) (w : World) :
    Calls Tryz.prog 58 #[.agg #[.int .i64 k, .int .i64 t, .int .i64 h, .int .i64 e0]] w fun e w' => e = .returned (.bool (bOf (AnsOK k t h e0))) ∧ Below w.heap.size w w' := by
  cases h1 : inB k 1 8 with
  | false =>
    have HF : Hid (bOf (AnsOK k t h e0) = false) := bOf_false fun h => by have := (h.1); rw [h1] at this; cases this
    go_enter Tryz.func58, Tryz.ntmps58
    go_wp2_with (go_at_call 29; refine (l01In_any _ _ _ _).mono ?_; rintro e w1 ⟨rfl, rfl⟩; rw [h1])
    go_ret
    exact ⟨ret_bool HF.out.symm, bel_new _ _⟩
  | true =>
    cases h2 : inB t 0 1000000 with
    | false =>
      have HF : Hid (bOf (AnsOK k t h e0) = false) := bOf_false fun h => by have := (h.2.1); rw [h2] at this; cases this
      go_enter Tryz.func58, Tryz.ntmps58
      go_wp2_with (go_at_call 29; refine (l01In_any _ _ _ _).mono ?_; rintro e w1 ⟨rfl, rfl⟩; first | rw [h1] | rw [h2])
      go_ret
      exact ⟨ret_bool HF.out.symm, bel_new _ _⟩
    | true =>
      cases h3 : inB h (-1) 255 with
      | false =>
        have HF : Hid (bOf (AnsOK k t h e0) = false) := bOf_false fun h => by have := (h.2.2.1); rw [h3] at this; cases this
        go_enter Tryz.func58, Tryz.ntmps58
        go_wp2_with (go_at_call 29; refine (l01In_any _ _ _ _).mono ?_; rintro e w1 ⟨rfl, rfl⟩; first | rw [h1] | rw [h2] | rw [h3])
        go_ret
        exact ⟨ret_bool HF.out.symm, bel_new _ _⟩
      | true =>
        cases h4 : inB e0 0 2000000000 with
        | false =>
          have HF : Hid (bOf (AnsOK k t h e0) = false) := bOf_false fun h => by have := (h.2.2.2); rw [h4] at this; cases this
          go_enter Tryz.func58, Tryz.ntmps58
          go_wp2_with (go_at_call 29; refine (l01In_any _ _ _ _).mono ?_; rintro e w1 ⟨rfl, rfl⟩; first | rw [h1] | rw [h2] | rw [h3] | rw [h4])
          go_ret
          exact ⟨ret_bool HF.out.symm, bel_new _ _⟩
        | true =>
          have HF : Hid (bOf (AnsOK k t h e0) = true) := bOf_true ⟨h1, h2, h3, h4⟩
          go_enter Tryz.func58, Tryz.ntmps58
          go_wp2_with (go_at_call 29; refine (l01In_any _ _ _ _).mono ?_; rintro e w1 ⟨rfl, rfl⟩; first | rw [h1] | rw [h2] | rw [h3] | rw [h4])
          go_ret
          exact ⟨ret_bool HF.out.symm, bel_new _ _⟩
theorem pc_ge {xs : List Sn} : ∀ {k : Nat}, (∀ (j : Nat) (y : Sn), j < k → xs[j]? = some y → SOne (pc xs j) y) → k ≤ xs.length → 0 ≤ pc xs k
  | 0, _, _ => by unfold pc; simp
  | k + 1, h, hk => by
    obtain ⟨x, hx⟩ := Tw.get_at (xs := xs) (k := k) (by omega)
    have ih := pc_ge (k := k) (fun j y hj hy => h j y (by omega) hy) (by omega)
    have := (inB_le (h k x (by omega) hx).1).1
    rw [pc_succ hx]
    omega
def SnOK (x : Sn) : Prop := inB x.c 0 255 = true ∧ inB x.s 1 65535 = true ∧ AnsOK x.k x.t x.h x.e
theorem sone_iff {p : Int} {x : Sn} (h : 0 ≤ p) : SOne p x ↔ (¬ x.c < p ∧ SnOK x) := by
  unfold SOne SnOK
  have e : inB x.c p 255 = true ↔ (¬ x.c < p ∧ inB x.c 0 255 = true) := by
    unfold inB
    simp
    omega
  rw [e, and_assoc]
set_option maxRecDepth 100000 in
set_option maxHeartbeats 1600000 in
theorem seenOK_any (x : Sn) (w : World) :
    Calls Tryz.prog 159 #[snV x] w fun e w' => e = .returned (.bool (bOf (SnOK x))) ∧ Below w.heap.size w w' := by
  unfold snV
  cases h1 : inB x.c 0 255 with
  | false =>
    have HF : Hid (bOf (SnOK x) = false) := bOf_false fun h => by have := h.1; rw [h1] at this; cases this
    go_enter Tryz.func159, Tryz.ntmps159
    go_wp2_with (go_at_call 66; refine (within_any _ _ _ _).mono ?_; rintro e w1 ⟨rfl, rfl⟩; rw [h1])
    go_ret
    exact ⟨ret_bool HF.out.symm, bel_new _ _⟩
  | true =>
    cases h2 : inB x.s 1 65535 with
    | false =>
      have HF : Hid (bOf (SnOK x) = false) := bOf_false fun h => by have := h.2.1; rw [h2] at this; cases this
      go_enter Tryz.func159, Tryz.ntmps159
      go_wp2_with (go_at_call 66; refine (within_any _ _ _ _).mono ?_; rintro e w1 ⟨rfl, rfl⟩; first | rw [h1] | rw [h2])
      go_ret
      exact ⟨ret_bool HF.out.symm, bel_new _ _⟩
    | true =>
      have HF : Hid (bOf (SnOK x) = bOf (AnsOK x.k x.t x.h x.e)) := by
        show _ = _
        by_cases h : AnsOK x.k x.t x.h x.e
        · rw [bOf_true h, bOf_true (show SnOK x from ⟨h1, h2, h⟩)]
        · rw [bOf_false h, bOf_false (fun g : SnOK x => h g.2.2)]
      go_enter Tryz.func159, Tryz.ntmps159
      go_wp2_with (first | (go_at_call 66; refine (within_any _ _ _ _).mono ?_; rintro e w1 ⟨rfl, rfl⟩; first | rw [h1] | rw [h2]) | (go_at_call 172; refine (answerOK_any _ _ _ _ _).mono ?_; rintro e w2 ⟨rfl, b2⟩))
      go_ret
      exact ⟨ret_bool HF.out.symm, (bel_new _ _).trans (b2.mono (bel_new _ _).size)⟩
set_option maxRecDepth 100000 in
set_option maxHeartbeats 1600000 in
theorem seensOK_any (v : Value) (xs : List Sn) (w : World) (h : RowS w v xs) (hl : xs.length ≤ 1048576) :
    Calls Tryz.prog 132 #[v] w fun e w' => e = .returned (.bool (bOf (SsOK xs))) ∧ Below w.heap.size w w' := by
  have HR : Hid (RowS w v xs) := h
  obtain ⟨a, cap, rfl⟩ := RowG.slice h
  clear h
  go_enter Tryz.func132, Tryz.ntmps132
  go_wp2_with fail
  go_loopw [3, 8] (fun p i wr => ∃ k : Nat, k ≤ xs.length ∧ i = .int .i64 k ∧ p = .int .i64 (pc xs k) ∧ Hid ((∀ (j : Nat) (y : Sn), j < k → xs[j]? = some y → SOne (pc xs j) y) ∧ Below w.heap.size w wr)) (fun _ i _ => xs.length - (intOf i).toNat)
  case atStart => exact ⟨0, by omega, rfl, rfl, ⟨fun j y hj => by omega, Below.refl _ _⟩⟩
  case round =>
    obtain ⟨k, hk, rfl, rfl, HK⟩ := hrel
    by_cases hlt : k < xs.length
    · obtain ⟨x, hx⟩ := Tw.get_at hlt
      obtain ⟨b, off, rfl, hbl, c0, c1, c2, c3, c4, c5⟩ := RowG.at (HR.out.below HK.out.2) rfl hx
      have HN : Hid (SOne (pc xs k) x ↔ (¬ x.c < pc xs k ∧ SnOK x)) := sone_iff (pc_ge HK.out.1 (by omega))
      have HNO : Hid (¬ SOne (pc xs k) x → bOf (SsOK xs) = false) := fun h => bOf_false fun hh => h (hh k x hx)
      have HYS : Hid (SOne (pc xs k) x → ∀ (j : Nat) (y : Sn), j < k + 1 → xs[j]? = some y → SOne (pc xs j) y) := fun h => upto (P := fun j y => SOne (pc xs j) y) HK.out.1 hx h
      have HP : Hid (pc xs (k + 1) = x.c + 1) := pc_succ hx
      have HW : Hid (∀ o, Below w.heap.size w (wr.alloc o)) := fun o => HK.out.2.trans ((bel_new wr o).mono HK.out.2.size)
      have HSN : Hid (∀ o, Calls Tryz.prog 159 #[.agg #[.int .i64 x.c, .int .i64 x.s, .int .i64 x.k, .int .i64 x.t, .int .i64 x.h, .int .i64 x.e]] (wr.alloc o) fun e w' => e = .returned (.bool (bOf (SnOK x))) ∧ (∀ i, w'.cell? ⟨wr.heap.size, i, none⟩ = (wr.alloc o).cell? ⟨wr.heap.size, i, none⟩) ∧ Below w.heap.size w w') := fun o =>
        (seenOK_any x _).mono fun e w' ⟨he, hb⟩ => ⟨he, fun i => hb.cell (p := ⟨wr.heap.size, i, none⟩) (by rw [size_new]; exact Nat.lt_succ_self _), (HW.out o).trans (hb.mono (HW.out o).size)⟩
      clear hx
      generalize pc xs k = p at HN HNO HYS ⊢
      by_cases h1 : x.c < p
      · have HF : Hid (bOf (SsOK xs) = false) := HNO.out fun h => (HN.out.1 h).1 h1
        go_wp2_with fail
        go_ret
        exact ⟨ret_bool HF.out.symm, HW.out _⟩
      · cases h3 : bOf (SnOK x) with
        | false =>
          have HF : Hid (bOf (SsOK xs) = false) := HNO.out fun h => by rw [bOf_true (HN.out.1 h).2] at h3; cases h3
          rw [h3] at HSN
          clear h3
          go_wp2_with (go_at_call 159; refine (HSN.out _).mono ?_; rintro e w2 ⟨rfl, _, g2⟩)
          go_ret
          exact ⟨ret_bool HF.out.symm, g2⟩
        | true =>
          have hs : SnOK x := Classical.byContradiction fun hn => by rw [bOf_false hn] at h3; cases h3
          have HT : Hid (SOne p x) := HN.out.2 ⟨h1, hs⟩
          have hb1 : 0 ≤ x.c ∧ x.c ≤ 255 := inB_le hs.1
          rw [h3] at HSN
          clear h3 hs
          go_wp2_with (go_at_call 159; refine (HSN.out _).mono ?_; rintro e w2 ⟨rfl, q2, g2⟩; have q20 := q2 0)
          exact ⟨⟨k + 1, by omega, by go_num, by rw [HP.out], ⟨HYS.out HT.out, g2⟩⟩, by simp [intOf]; omega⟩
    · obtain rfl : k = xs.length := by omega
      have HT : Hid (bOf (SsOK xs) = true) := bOf_true fun j y hy => HK.out.1 j y (lt_at hy) hy
      go_wp2_with fail
      go_ret
      exact ⟨ret_bool HT.out.symm, HK.out.2⟩
set_option maxRecDepth 100000 in
set_option maxHeartbeats 1600000 in
theorem locksOK_any (v : Value) (xs : List Lk) (nx : Int) (w : World) (h : RowL w v xs) (hl : xs.length ≤ 1048576) (hw : ∀ x ∈ xs, x.n.size ≤ 1048576 ∧ x.ws.length ≤ 1048576) (hn1 : 1 ≤ nx) (hn2 : nx ≤ 1000000) :
    Calls Tryz.prog 131 #[v, .int .i64 nx] w fun e w' => e = .returned (.bool (bOf (LsOK nx xs))) ∧ Below w.heap.size w w' := by
  have HR : Hid (RowL w v xs ∧ ∀ x ∈ xs, x.n.size ≤ 1048576 ∧ x.ws.length ≤ 1048576) := ⟨h, hw⟩
  obtain ⟨a, cap, rfl⟩ := RowG.slice h
  clear h hw
  go_enter Tryz.func131, Tryz.ntmps131
  go_wp2_with fail
  go_loopw [5, 10] (fun p i wr => ∃ k : Nat, k ≤ xs.length ∧ i = .int .i64 k ∧ p = .string (pn xs k) ∧ Hid ((∀ (j : Nat) (y : Lk), j < k → xs[j]? = some y → LOne nx (pn xs j) y) ∧ Below w.heap.size w wr)) (fun _ i _ => xs.length - (intOf i).toNat)
  case atStart => exact ⟨0, by omega, rfl, rfl, ⟨fun j y hj => by omega, Below.refl _ _⟩⟩
  case round =>
    obtain ⟨k, hk, rfl, rfl, HK⟩ := hrel
    by_cases hlt : k < xs.length
    · obtain ⟨x, hx⟩ := Tw.get_at hlt
      obtain ⟨b, off, rfl, hbl, u, c0, c1, c2, c3, c4, c5⟩ := RowG.at (HR.out.1.below HK.out.2) rfl hx
      obtain ⟨ua, uc, rfl⟩ := RowG.slice c5
      have HN : Hid (LOne nx (pn xs k) x ↔ ((Op.bytesLess x.n.toList (pn xs k).toList || x.n.toList == (pn xs k).toList) = false ∧ opB x.n = true ∧ inB x.t 0 (nx - 1) = true ∧ HdOK x)) := Iff.rfl
      have HNO : Hid (¬ LOne nx (pn xs k) x → bOf (LsOK nx xs) = false) := fun h => bOf_false fun hh => h (hh k x hx)
      have HYS : Hid (LOne nx (pn xs k) x → ∀ (j : Nat) (y : Lk), j < k + 1 → xs[j]? = some y → LOne nx (pn xs j) y) := fun h => upto (P := fun j y => LOne nx (pn xs j) y) HK.out.1 hx h
      have HP : Hid (pn xs (k + 1) = x.n) := pn_succ hx
      have HW : Hid (∀ o, Below w.heap.size w (wr.alloc o)) := fun o => HK.out.2.trans ((bel_new wr o).mono HK.out.2.size)
      -- the box and what it holds, in every later world
      have HBX : Hid (∀ W, Below (wr.alloc (.cells #[.string x.n, .int .i64 x.t, .int .i64 x.h, .int .i64 x.e, .slice ua x.ws.length uc] 98)).heap.size (wr.alloc (.cells #[.string x.n, .int .i64 x.t, .int .i64 x.h, .int .i64 x.e, .slice ua x.ws.length uc] 98)) W → W.cell? ⟨wr.heap.size, 0, none⟩ = some (.string x.n) ∧ W.cell? ⟨wr.heap.size, 1, none⟩ = some (.int .i64 x.t) ∧ W.cell? ⟨wr.heap.size, 2, none⟩ = some (.int .i64 x.h) ∧ W.cell? ⟨wr.heap.size, 3, none⟩ = some (.int .i64 x.e) ∧ W.cell? ⟨wr.heap.size, 4, none⟩ = some (.slice ua x.ws.length uc) ∧ RowW W (.slice ua x.ws.length uc) x.ws ∧ Below w.heap.size w W) := fun W hW => by
        have h1 := (hW.block wr.heap.size (by simp)).trans (heap_alloc_new wr _)
        exact ⟨(blk_cell h1 0 rfl).1, (blk_cell h1 1 rfl).1, (blk_cell h1 2 rfl).1, (blk_cell h1 3 rfl).1, (blk_cell h1 4 rfl).1, (c5.below (bel_new _ _)).below hW, (HW.out _).trans (hW.mono (HW.out _).size)⟩
      have HZ : Hid (x.n.size ≤ maxLen ∧ x.ws.length ≤ 1048576) := by have := HR.out.2 x (mem_at hx); exact ⟨by unfold maxLen; omega, this.2⟩
      clear hx c5
      generalize pn xs k = p at HN HNO HYS ⊢
      go_upto_region 5 with fail
      clear c0 c1 c2 c3 c4
      generalize wr.alloc (.cells #[.string x.n, .int .i64 x.t, .int .i64 x.h, .int .i64 x.e, .slice ua x.ws.length uc] 98) = wb at HBX ⊢
      obtain ⟨b0, b1, b2, b3, b4, _, g0⟩ := HBX.out wb (Below.refl _ _)
      have HG0 : Hid (Below w.heap.size w wb) := g0
      clear g0
      cases h1 : (Op.bytesLess x.n.toList p.toList || x.n.toList == p.toList) with
      | true =>
        have HF : Hid (bOf (LsOK nx xs) = false) := HNO.out fun h => by have := (HN.out.1 h).1; rw [h1] at this; cases this
        go_wp2_with fail
        go_ret
        exact ⟨ret_bool HF.out.symm, HG0.out⟩
      | false =>
        have h1a : Op.bytesLess x.n.toList p.toList = false := by cases hh : Op.bytesLess x.n.toList p.toList; rfl; rw [hh] at h1; cases h1
        have h1b : (x.n.toList == p.toList) = false := by cases hh : (x.n.toList == p.toList); rfl; rw [hh, Bool.or_true] at h1; cases h1
        -- the name's test adds to memory
        have HNM : Hid (Calls Tryz.prog 157 #[.string x.n] wb fun e w' => e = .returned (.bool (opB x.n)) ∧ w'.cell? ⟨wr.heap.size, 0, none⟩ = some (.string x.n) ∧ w'.cell? ⟨wr.heap.size, 1, none⟩ = some (.int .i64 x.t) ∧ w'.cell? ⟨wr.heap.size, 2, none⟩ = some (.int .i64 x.h) ∧ w'.cell? ⟨wr.heap.size, 3, none⟩ = some (.int .i64 x.e) ∧ w'.cell? ⟨wr.heap.size, 4, none⟩ = some (.slice ua x.ws.length uc) ∧ Hid (Below wb.heap.size wb w') ∧ Hid (Below w.heap.size w w')) := (opNameOK_any x.n wb HZ.out.1).mono fun e w' ⟨he, hb⟩ => by
          obtain ⟨q0, q1, q2, q3, q4, _, q6⟩ := HBX.out w' hb
          exact ⟨he, q0, q1, q2, q3, q4, hb, q6⟩
        have HHD : Hid (∀ w1, Below wb.heap.size wb w1 → Calls Tryz.prog 158 #[.agg #[.string x.n, .int .i64 x.t, .int .i64 x.h, .int .i64 x.e, .slice ua x.ws.length uc]] w1 fun e w' => e = .returned (.bool (bOf (HdOK x))) ∧ w'.cell? ⟨wr.heap.size, 0, none⟩ = some (.string x.n) ∧ Hid (Below w.heap.size w w')) := fun w1 hb1 => (holdOK_any x _ w1 (HBX.out w1 hb1).2.2.2.2.2.1 HZ.out.2).mono fun e w' ⟨he, hb⟩ => by
          obtain ⟨q0, _, _, _, _, _, q6⟩ := HBX.out w' (hb1.trans (hb.mono hb1.size))
          exact ⟨he, q0, q6⟩
        cases h2 : opB x.n with
        | false =>
          have HF : Hid (bOf (LsOK nx xs) = false) := HNO.out fun h => by have := (HN.out.1 h).2.1; rw [h2] at this; cases this
          rw [h2] at HNM
          go_wp2_with (go_at_call 157; refine HNM.out.mono ?_; rintro e w1 ⟨rfl, r0, r1, r2, r3, r4, R5, R6⟩)
          go_ret
          exact ⟨ret_bool HF.out.symm, R6.out⟩
        | true =>
          rw [h2] at HNM
          cases h3 : inB x.t 0 (nx - 1) with
          | false =>
            have HF : Hid (bOf (LsOK nx xs) = false) := HNO.out fun h => by have := (HN.out.1 h).2.2.1; rw [h3] at this; cases this
            go_wp2_with (first | (go_at_call 157; refine HNM.out.mono ?_; rintro e w1 ⟨rfl, r0, r1, r2, r3, r4, R5, R6⟩; clear b0 b1 b2 b3 b4) | (go_at_call 66; refine (within_any _ _ _ _).mono ?_; rintro e w2 ⟨rfl, rfl⟩; rw [h3]))
            go_ret
            exact ⟨ret_bool HF.out.symm, R6.out⟩
          | true =>
            cases h4 : bOf (HdOK x) with
            | false =>
              have HF : Hid (bOf (LsOK nx xs) = false) := HNO.out fun h => by rw [bOf_true (HN.out.1 h).2.2.2] at h4; cases h4
              rw [h4] at HHD
              clear h4
              go_wp2_with (first | (go_at_call 157; refine HNM.out.mono ?_; rintro e w1 ⟨rfl, r0, r1, r2, r3, r4, R5, R6⟩; clear b0 b1 b2 b3 b4) | (go_at_call 66; refine (within_any _ _ _ _).mono ?_; rintro e w2 ⟨rfl, rfl⟩; rw [h3]) | (go_at_call 158; refine (HHD.out _ R5.out).mono ?_; rintro e w3 ⟨rfl, s0, R7⟩))
              go_ret
              exact ⟨ret_bool HF.out.symm, R7.out⟩
            | true =>
              have HT : Hid (LOne nx p x) := HN.out.2 ⟨h1, h2, h3, Classical.byContradiction fun hn => by rw [bOf_false hn] at h4; cases h4⟩
              rw [h4] at HHD
              clear h4 h1
              go_wp2_with (first | (go_at_call 157; refine HNM.out.mono ?_; rintro e w1 ⟨rfl, r0, r1, r2, r3, r4, R5, R6⟩; clear b0 b1 b2 b3 b4) | (go_at_call 66; refine (within_any _ _ _ _).mono ?_; rintro e w2 ⟨rfl, rfl⟩; rw [h3]) | (go_at_call 158; refine (HHD.out _ R5.out).mono ?_; rintro e w3 ⟨rfl, s0, R7⟩; clear r0 r1 r2 r3 r4))
              exact ⟨⟨k + 1, by omega, by go_num, by rw [HP.out], ⟨HYS.out HT.out, R7.out⟩⟩, by simp [intOf]; omega⟩
    · obtain rfl : k = xs.length := by omega
      have HT : Hid (bOf (LsOK nx xs) = true) := bOf_true fun j y hy => HK.out.1 j y (lt_at hy) hy
      go_wp2_with fail
      go_ret
      exact ⟨ret_bool HT.out.symm, HK.out.2⟩
end Go.Proofs.YtnebohdlndiejaaGreatDoor.Tp

/- TableOK of the program. -/
namespace Go.Proofs.YtnebohdlndiejaaGreatDoor.Tp
open Go.RowKit Go.Proofs.YtnebohdlndiejaaGreatDoor.Sl Go.Proofs.YtnebohdlndiejaaGreatDoor.Ap Go.Proofs.YtnebohdlndiejaaGreatDoor.Tx Go.Proofs.YtnebohdlndiejaaGreatDoor.Tb Go.Proofs.YtnebohdlndiejaaGreatDoor.Tw Go.Proofs.YtnebohdlndiejaaGreatDoor.Rq

theorem with_any (x a b : Int) (w : World) : Calls Tryz.prog 66 #[.int .i64 x, .int .i64 a, .int .i64 b] w fun e w' => e = .returned (.bool (inB x a b)) ∧ w = w' := (within_any x a b w).mono fun _ _ ⟨h1, h2⟩ => ⟨h1, h2.symm⟩
set_option maxRecDepth 100000 in
set_option maxHeartbeats 1600000 in
theorem implTableOK_any (tm nx : Int) (vl vs : Value) (ls : List Lk) (ss : List Sn) (w : World) (hl : RowL w vl ls) (hs : RowS w vs ss) (hw : ∀ x ∈ ls, x.n.size ≤ 1048576 ∧ x.ws.length ≤ 1048576) (hy1 : ls.length ≤ 1048576) (hy2 : ss.length ≤ 1048576) :
    Calls Tryz.prog 102 #[tabV tm nx vl vs] w fun e w' => e = .returned (.bool (bOf (TOK ⟨tm, nx, ls, ss⟩))) ∧ Below w.heap.size w w' := by
  obtain ⟨la, lc, rfl⟩ := RowG.slice hl
  obtain ⟨sa, sc, rfl⟩ := RowG.slice hs
  have HTK : Hid (TOK ⟨tm, nx, ls, ss⟩ ↔ (inB tm 0 1000000000 = true ∧ inB nx 1 1000000 = true ∧ ls.length ≤ 4 ∧ LsOK nx ls ∧ ss.length ≤ 6 ∧ SsOK ss)) := Iff.rfl
  have HWZ : Hid (∀ x ∈ ls, x.n.size ≤ 1048576 ∧ x.ws.length ≤ 1048576) := hw
  unfold tabV
  have HX : Hid (∀ W, Below (w.alloc (.cells #[.int .i64 tm, .int .i64 nx, .slice la ls.length lc, .slice sa ss.length sc] 36)).heap.size (w.alloc (.cells #[.int .i64 tm, .int .i64 nx, .slice la ls.length lc, .slice sa ss.length sc] 36)) W → (W.cell? ⟨w.heap.size, 0, none⟩ = some (.int .i64 tm) ∧ W.cell? ⟨w.heap.size, 1, none⟩ = some (.int .i64 nx) ∧ W.cell? ⟨w.heap.size, 2, none⟩ = some (.slice la ls.length lc) ∧ W.cell? ⟨w.heap.size, 3, none⟩ = some (.slice sa ss.length sc)) ∧ RowL W (.slice la ls.length lc) ls ∧ RowS W (.slice sa ss.length sc) ss ∧ Below w.heap.size w W) := fun W hW => by
    have h1 := (hW.block w.heap.size (by simp)).trans (heap_alloc_new w _)
    exact ⟨⟨(blk_cell h1 0 rfl).1, (blk_cell h1 1 rfl).1, (blk_cell h1 2 rfl).1, (blk_cell h1 3 rfl).1⟩, (hl.below (bel_new _ _)).below hW, (hs.below (bel_new _ _)).below hW, (bel_new w _).trans (hW.mono (by simp))⟩
  clear hl hs hw
  generalize HTO : bOf (TOK ⟨tm, nx, ls, ss⟩) = tok
  have HT : Hid (bOf (TOK ⟨tm, nx, ls, ss⟩) = tok) := HTO
  clear HTO
  go_enter Tryz.func102, Tryz.ntmps102
  go_upto_region 1 with fail
  generalize w.alloc (.cells #[.int .i64 tm, .int .i64 nx, .slice la ls.length lc, .slice sa ss.length sc] 36) = wb at HX ⊢
  obtain ⟨⟨x0, x1, x2, x3⟩, _, _, hb0⟩ := HX.out wb (Below.refl _ _)
  have HB0 : Hid (Below w.heap.size w wb) := hb0
  clear hb0
  cases h1 : inB tm 0 1000000000 with
  | false =>
    have HF : Hid (tok = false) := HT.out.symm.trans (bOf_false fun h => by have := (HTK.out.1 h).1; rw [h1] at this; cases this)
    go_wp2_with (go_at_call 66; refine (with_any _ _ _ _).mono ?_; rintro e w1 ⟨rfl, rfl⟩; rw [h1])
    go_ret
    exact ⟨ret_bool HF.out.symm, HB0.out⟩
  | true =>
  cases h2 : inB nx 1 1000000 with
  | false =>
    have HF : Hid (tok = false) := HT.out.symm.trans (bOf_false fun h => by have := (HTK.out.1 h).2.1; rw [h2] at this; cases this)
    go_wp2_with (go_at_call 66; refine (with_any _ _ _ _).mono ?_; rintro e w1 ⟨rfl, rfl⟩; first | rw [h1] | rw [h2])
    go_ret
    exact ⟨ret_bool HF.out.symm, HB0.out⟩
  | true =>
  by_cases h3 : ls.length ≤ 4
  · have h3' : (ls.length : Int) ≤ 4 := by omega
    have hnx := inB_le h2
    have HLO : Hid (Calls Tryz.prog 131 #[.slice la ls.length lc, .int .i64 nx] wb fun e w' => e = .returned (.bool (bOf (LsOK nx ls))) ∧ w'.cell? ⟨w.heap.size, 3, none⟩ = some (.slice sa ss.length sc) ∧ Hid (RowS w' (.slice sa ss.length sc) ss ∧ Below w.heap.size w w')) := (locksOK_any _ ls nx wb (HX.out wb (Below.refl _ _)).2.1 hy1 HWZ.out hnx.1 hnx.2).mono fun e w' ⟨he, hb⟩ => by
      obtain ⟨⟨_, _, _, q3⟩, _, q5, q6⟩ := HX.out w' hb
      exact ⟨he, q3, q5, q6⟩
    cases h4 : bOf (LsOK nx ls) with
    | false =>
      have HF : Hid (tok = false) := HT.out.symm.trans (bOf_false fun h => by rw [bOf_true (HTK.out.1 h).2.2.2.1] at h4; cases h4)
      rw [h4] at HLO
      clear h4
      go_wp2_with (first | (go_at_call 66; refine (with_any _ _ _ _).mono ?_; rintro e w1 ⟨rfl, rfl⟩; first | rw [h1] | rw [h2]) | (go_at_call 131; refine HLO.out.mono ?_; rintro e w2 ⟨rfl, q3, Q2⟩; clear x0 x1 x2 x3))
      go_ret
      exact ⟨ret_bool HF.out.symm, Q2.out.2⟩
    | true =>
      have HLS : Hid (LsOK nx ls) := (show LsOK nx ls from Classical.byContradiction fun hn => by rw [bOf_false hn] at h4; cases h4)
      rw [h4] at HLO
      clear h4
      by_cases h5 : ss.length ≤ 6
      · have h5' : (ss.length : Int) ≤ 6 := by omega
        have HF : Hid (tok = bOf (SsOK ss)) := by
          show _ = _
          rw [← HT.out]
          by_cases hh : SsOK ss
          · rw [bOf_true hh, bOf_true (HTK.out.2 ⟨h1, h2, h3, HLS.out, h5, hh⟩)]
          · rw [bOf_false hh, bOf_false fun h => hh (HTK.out.1 h).2.2.2.2.2]
        have HSO : Hid (∀ w2, RowS w2 (.slice sa ss.length sc) ss → Below w.heap.size w w2 → Calls Tryz.prog 132 #[.slice sa ss.length sc] w2 fun e w' => e = .returned (.bool tok) ∧ Below w.heap.size w w') := fun w2 hr hb => (seensOK_any _ ss w2 hr hy2).mono fun e w' ⟨he, hb2⟩ => ⟨by rw [HF.out]; exact he, hb.trans (hb2.mono hb.size)⟩
        go_wp2_with (first | (go_at_call 66; refine (with_any _ _ _ _).mono ?_; rintro e w1 ⟨rfl, rfl⟩; first | rw [h1] | rw [h2]) | (go_at_call 131; refine HLO.out.mono ?_; rintro e w2 ⟨rfl, q3, Q2⟩; clear x0 x1 x2 x3) | (go_at_call 132; refine (HSO.out _ Q2.out.1 Q2.out.2).mono ?_; rintro e w3 ⟨rfl, g3⟩))
        go_ret
        exact ⟨rfl, g3⟩
      · have h5' : decide ((ss.length : Int) ≤ 6) = false := decide_eq_false (by omega)
        have h5'' : ¬ (ss.length : Int) ≤ 6 := by omega
        have HF : Hid (tok = false) := HT.out.symm.trans (bOf_false fun h => h5 (HTK.out.1 h).2.2.2.2.1)
        go_wp2_with (first | (go_at_call 66; refine (with_any _ _ _ _).mono ?_; rintro e w1 ⟨rfl, rfl⟩; first | rw [h1] | rw [h2]) | (go_at_call 131; refine HLO.out.mono ?_; rintro e w2 ⟨rfl, q3, Q2⟩; clear x0 x1 x2 x3))
        go_ret
        exact ⟨ret_bool HF.out.symm, Q2.out.2⟩
  · have h3' : decide ((ls.length : Int) ≤ 4) = false := decide_eq_false (by omega)
    have h3'' : ¬ (ls.length : Int) ≤ 4 := by omega
    have HF : Hid (tok = false) := HT.out.symm.trans (bOf_false fun h => h3 (HTK.out.1 h).2.2.1)
    go_wp2_with (go_at_call 66; refine (with_any _ _ _ _).mono ?_; rintro e w1 ⟨rfl, rfl⟩; first | rw [h1] | rw [h2])
    go_ret
    exact ⟨ret_bool HF.out.symm, HB0.out⟩
end Go.Proofs.YtnebohdlndiejaaGreatDoor.Tp

/- impl.ReadTable: what it answers. -/
namespace Go.Proofs.YtnebohdlndiejaaGreatDoor.Ur
open Go.RowKit Go.Proofs.YtnebohdlndiejaaGreatDoor.Sl Go.Proofs.YtnebohdlndiejaaGreatDoor.By Go.Proofs.YtnebohdlndiejaaGreatDoor.Ap Go.Proofs.YtnebohdlndiejaaGreatDoor.Rr Go.Proofs.YtnebohdlndiejaaGreatDoor.Tb Go.Proofs.YtnebohdlndiejaaGreatDoor.Tw
open Go.Proofs.YtnebohdlndiejaaGreatDoor.Wa (OwnW OwnS)
open Go.Proofs.YtnebohdlndiejaaGreatDoor.Lo (LkA uV OwnL)
open Go.Proofs.YtnebohdlndiejaaGreatDoor.Tp (bOf TOK implTableOK_any)

theorem Mem.rows {W : World} {B : Nat} {v2 v3 : Value} {ms : List LkA} {ss : List Sn} (h : Mem W B v2 v3 ms ss) : RowL W v2 (ms.map (·.1)) ∧ RowS W v3 ss := ⟨h.ol.row fun m hm => (h.ow m hm).row, h.os.row⟩
theorem Mem.nil (W : World) (B : Nat) : Mem W B (.slice none 0 0) (.slice none 0 0) [] [] := ⟨World.ownsRow_nil _ _ _ _, fun m hm => (by cases hm), List.Pairwise.nil, OwnS.nil _ _⟩
theorem Mem.mono {W : World} {B B' : Nat} {v2 v3 : Value} {ms : List LkA} {ss : List Sn} (h : Mem W B v2 v3 ms ss) (hb : B' ≤ B) : Mem W B' v2 v3 ms ss := ⟨h.ol.mono hb, fun m hm => (h.ow m hm).mono hb, h.di, h.os.mono hb⟩
theorem Mem.below {W W' : World} {B : Nat} {v2 v3 : Value} {ms : List LkA} {ss : List Sn} (h : Mem W B v2 v3 ms ss) (hb : Below W.heap.size W W') : Mem W' B v2 v3 ms ss := h.kept fun g _ hg => hb.block g hg
/-- What is read is small. -/
theorem txt_small (xs : List Int) (hr : ∀ x ∈ xs, 0 ≤ x ∧ x ≤ 255) : (txtB 1 xs).size ≤ 65535 := by
  unfold txtB
  rw [strOfNums_size]
  exact Nat.le_trans (tkB_len _ _) (txtN_le 1 xs (by decide) hr).1
theorem cnt_le {xs : List Int} (hr : ∀ x ∈ xs, 0 ≤ x ∧ x ≤ 255) : cnt xs ≤ 255 := by
  have nb := nv_range (n := 1) hr
  simp only [show ((256 : Int) ^ 1) = 256 from rfl] at nb
  unfold cnt; omega
theorem lkO_small (xs : List Int) (hr : ∀ x ∈ xs, 0 ≤ x ∧ x ≤ 255) : (lkO xs).n.size ≤ 1048576 ∧ (lkO xs).ws.length ≤ 1048576 := by
  have h1 : (lkO xs).n = txtB 1 xs := by simp only [lkO]
  have h2 : (lkO xs).ws = itL wtR wtO (cnt (lk3 xs)) (tkR 1 (lk3 xs)) := by simp only [lkO]
  have h3 := txt_small xs hr
  refine ⟨by rw [h1]; omega, ?_⟩
  rw [h2]
  rw [itL_len]
  have := cnt_le ((less_lk3 xs).2 hr)
  omega
theorem itL_all {α : Type} {f : List Int → List Int} {o : List Int → α} {Q : α → Prop} (hf : Less f) (ho : ∀ xs : List Int, (∀ x ∈ xs, 0 ≤ x ∧ x ≤ 255) → Q (o xs)) (xs : List Int) (hr : ∀ x ∈ xs, 0 ≤ x ∧ x ≤ 255) : ∀ k, ∀ y ∈ itL f o k xs, Q y
  | 0, y, hy => by cases hy
  | k + 1, y, hy => by
    rw [itL_succ] at hy
    rcases List.mem_append.1 hy with hy | hy
    · exact itL_all hf ho xs hr k y hy
    · rw [List.mem_singleton.1 hy]; exact ho _ ((less_it hf k xs).2 hr)
theorem less_2 : Less tb2 := (less_tk 3).comp (less_tk 4)
theorem less_A : Less tbA := (less_tk 1).comp less_2
theorem less_B : Less tbB := fun xs => ((less_it less_lk (cnt (tb2 xs))).comp less_A) xs
theorem tbO_small (xs : List Int) (hr : ∀ x ∈ xs, 0 ≤ x ∧ x ≤ 255) : (tbO xs).ls.length ≤ 255 ∧ (tbO xs).ss.length ≤ 255 ∧ ∀ x ∈ (tbO xs).ls, x.n.size ≤ 1048576 ∧ x.ws.length ≤ 1048576 := by
  refine ⟨?_, ?_, ?_⟩
  · have e : (tbO xs).ls = itL lkR lkO (cnt (tb2 xs)) (tbA xs) := by simp only [tbO]
    rw [e, itL_len]; exact cnt_le ((less_2 xs).2 hr)
  · have e : (tbO xs).ss = itL snR snO (cnt (tbB xs)) (tbC xs) := by simp only [tbO]
    rw [e, itL_len]; exact cnt_le ((less_B xs).2 hr)
  · have e : (tbO xs).ls = itL lkR lkO (cnt (tb2 xs)) (tbA xs) := by simp only [tbO]
    rw [e]
    exact itL_all (Q := fun x : Lk => x.n.size ≤ 1048576 ∧ x.ws.length ≤ 1048576) less_lk lkO_small (tbA xs) ((less_A xs).2 hr) _
/-- What ReadTable answers. -/
noncomputable def rtOK (xs : List Int) : Bool := !tbS xs false && ((tbR xs).isEmpty && bOf (TOK (tbO xs)))
noncomputable def rtC (xs : List Int) : Int := if 65536 < xs.length then 2 else if rtOK xs then 0 else 3
def zTab : Tab := ⟨0, 0, [], []⟩
noncomputable def rtT (xs : List Int) : Tab := if rtC xs = 0 then tbO xs else zTab
theorem rt_long {xs : List Int} (h : 65536 < xs.length) : rtC xs = 2 ∧ rtT xs = zTab := by
  have e : rtC xs = 2 := if_pos h
  exact ⟨e, by unfold rtT; rw [e]; rfl⟩
theorem rt_bad {xs : List Int} (h : ¬ 65536 < xs.length) (hb : rtOK xs = false) : rtC xs = 3 ∧ rtT xs = zTab := by
  have e : rtC xs = 3 := by unfold rtC; rw [if_neg h, hb]; rfl
  exact ⟨e, by unfold rtT; rw [e]; rfl⟩
theorem rt_ok {xs : List Int} (h : ¬ 65536 < xs.length) (hb : rtOK xs = true) : rtC xs = 0 ∧ rtT xs = tbO xs := by
  have e : rtC xs = 0 := by unfold rtC; rw [if_neg h, hb]; rfl
  exact ⟨e, by unfold rtT; rw [e]; rfl⟩
structure Jt (w W : World) (x : Nat) (tm nx : Int) (vl vs : Value) (ms : List LkA) (ss : List Sn) : Prop where
  a : W.heap[w.heap.size]? = some (.cells #[.int .i64 0, .int .i64 0, .slice none 0 0, .slice none 0 0] 36 (0, 0))
  b : W.heap[w.heap.size + 1]? = some (.cells #[.int .i64 0, .int .i64 0, .slice none 0 0, .slice none 0 0] 36 (0, 0))
  x : W.heap[x]? = some (.cells #[.int .i64 tm, .int .i64 nx, vl, vs] 36 (0, 0))
  g : Below w.heap.size w W
  m : Mem W (w.heap.size + 3) vl vs ms ss
theorem Jt.below {w W W' : World} {x : Nat} {tm nx : Int} {vl vs : Value} {ms : List LkA} {ss : List Sn} (h : Jt w W x tm nx vl vs ms ss) (hb : Below W.heap.size W W') : Jt w W' x tm nx vl vs ms ss :=
  ⟨(hb.block _ (Array.getElem?_eq_some_iff.1 h.a).1).trans h.a, (hb.block _ (Array.getElem?_eq_some_iff.1 h.b).1).trans h.b, (hb.block _ (Array.getElem?_eq_some_iff.1 h.x).1).trans h.x, h.g.trans (hb.mono h.g.size), h.m.below hb⟩
theorem rj_start (w : World) (v : Value) (xs : List Int) (h : RowB w v xs) : Rdr w.heap.size (((w.alloc (.cells #[.int .i64 0, .int .i64 0, .slice none 0 0, .slice none 0 0] 36)).alloc (.cells #[.int .i64 0, .int .i64 0, .slice none 0 0, .slice none 0 0] 36)).alloc (.cells #[v, .bool false] 222)) (w.heap.size + 2) xs false := by
  refine ⟨_, ?_, (RowU.of h).kept (fun k hk => ?_)⟩
  · have := blk_new ((w.alloc (.cells #[.int .i64 0, .int .i64 0, .slice none 0 0, .slice none 0 0] 36)).alloc (.cells #[.int .i64 0, .int .i64 0, .slice none 0 0, .slice none 0 0] 36)) #[v, .bool false] 222
    rw [size_new, size_new] at this
    exact this
  · rw [Below.heap_alloc _ _ _ (by simp; omega), Below.heap_alloc _ _ _ (by simp; omega), Below.heap_alloc _ _ _ hk]
set_option maxRecDepth 100000 in
set_option maxHeartbeats 1600000 in
theorem readJust_any (v : Value) (xs : List Int) (w : World) (h : RowB w v xs) :
    Calls Tryz.prog 121 #[v, .func (Fn.func 122) #[] #[], .func (Fn.func 102) #[] #[]] w fun e w' => ∃ u2 u3 ms, e = .returned (.tuple #[tabV (rtT xs).tm (rtT xs).nx u2 u3, .int .i64 (rtC xs)]) ∧ (ms.map (·.1) = (rtT xs).ls ∧ Mem w' w.heap.size u2 u3 ms (rtT xs).ss) ∧ Below w.heap.size w w' := by
  have hr : ∀ x ∈ xs, 0 ≤ x ∧ x ≤ 255 := by obtain ⟨_, _, _, _, h⟩ := h; exact h
  have H0 : Hid (∀ a cap, v = .slice a xs.length cap → Rdr w.heap.size (((w.alloc (.cells #[.int .i64 0, .int .i64 0, .slice none 0 0, .slice none 0 0] 36)).alloc (.cells #[.int .i64 0, .int .i64 0, .slice none 0 0, .slice none 0 0] 36)).alloc (.cells #[.slice a xs.length cap, .bool false] 222)) (w.heap.size + 2) xs false) := fun a cap e => by rw [← e]; exact rj_start w v xs h
  obtain ⟨a, cap, rfl, _⟩ := h
  by_cases hb : 65536 < xs.length
  · have hb' : (65536 : Int) < (xs.length : Int) := by omega
    have HN : Hid (rtC xs = 2 ∧ rtT xs = zTab) := rt_long hb
    rw [HN.out.1, HN.out.2]
    clear H0 hr
    go_enter Tryz.func121, Tryz.ntmps121
    go_wp2_with fail
    exact bodyPost_ret (v := .tuple #[.agg #[.int .i64 0, .int .i64 0, .slice none 0 0, .slice none 0 0], .int .i64 2]) (by simp [results, Tryz.results121, go_sem]) rfl ⟨.slice none 0 0, .slice none 0 0, [], rfl, ⟨rfl, Mem.nil _ _⟩, ((Below.refl _ _).alloc (Nat.le_refl _) _).alloc (by simp) _⟩
  have hb' : ¬ (65536 : Int) < (xs.length : Int) := by omega
  have HTK : Hid (Calls Tryz.prog 122 #[.pointer (some ⟨w.heap.size + 2, 0, none⟩)] (((w.alloc (.cells #[.int .i64 0, .int .i64 0, .slice none 0 0, .slice none 0 0] 36)).alloc (.cells #[.int .i64 0, .int .i64 0, .slice none 0 0, .slice none 0 0] 36)).alloc (.cells #[.slice a xs.length cap, .bool false] 222)) fun e w' => ∃ u2 u3 ms, e = .returned (tabV (tbO xs).tm (tbO xs).nx u2 u3) ∧ (ms.map (·.1) = (tbO xs).ls ∧ Mem w' (w.heap.size + 3) u2 u3 ms (tbO xs).ss) ∧ Rdr w.heap.size w' (w.heap.size + 2) (tbR xs) (tbS xs false) ∧ (w'.heap[w.heap.size]? = some (.cells #[.int .i64 0, .int .i64 0, .slice none 0 0, .slice none 0 0] 36 (0, 0)) ∧ w'.heap[w.heap.size + 1]? = some (.cells #[.int .i64 0, .int .i64 0, .slice none 0 0, .slice none 0 0] 36 (0, 0)) ∧ Below w.heap.size w w' ∧ w.heap.size + 3 ≤ w'.heap.size)) := by
    have hs3 : (((w.alloc (.cells #[.int .i64 0, .int .i64 0, .slice none 0 0, .slice none 0 0] 36)).alloc (.cells #[.int .i64 0, .int .i64 0, .slice none 0 0, .slice none 0 0] 36)).alloc (.cells #[.slice a xs.length cap, .bool false] 222)).heap.size = w.heap.size + 3 := by rw [size_new, size_new, size_new]
    refine (takeTable_any (w.heap.size + 2) w.heap.size xs false _ (H0.out a cap rfl) (by omega) (by omega) hr).mono ?_
    rintro e w' ⟨u2, u3, ms, rfl, hm, r, g⟩
    rw [hs3] at hm
    refine ⟨u2, u3, ms, rfl, hm, r, blk_kept ?_ g (by omega), blk_kept ?_ g (by omega), ?_, by have := g.size; omega⟩
    · exact ((Below.heap_alloc _ _ _ (by simp; omega)).trans (Below.heap_alloc _ _ _ (by simp))).trans (blk_new _ _ _)
    · have := blk_new (w.alloc (.cells #[.int .i64 0, .int .i64 0, .slice none 0 0, .slice none 0 0] 36)) #[.int .i64 0, .int .i64 0, .slice none 0 0, .slice none 0 0] 36
      rw [size_new] at this
      exact (Below.heap_alloc _ _ _ (by simp)).trans this
    · have G0 : Below w.heap.size w (((w.alloc (.cells #[.int .i64 0, .int .i64 0, .slice none 0 0, .slice none 0 0] 36)).alloc (.cells #[.int .i64 0, .int .i64 0, .slice none 0 0, .slice none 0 0] 36)).alloc (.cells #[.slice a xs.length cap, .bool false] 222)) := (((Below.refl _ _).alloc (Nat.le_refl _) _).alloc (by simp) _).alloc (by simp; omega) _
      exact ⟨g.os.trans G0.os, g.tape.trans G0.tape, g.output.trans G0.output, Nat.le_trans G0.size g.size, fun k hk => (below_kept g (by omega) (by rw [hs3]; omega) k hk).trans (G0.block k hk)⟩
  have HTS := tbO_small xs hr
  have HOK : Hid (rtOK xs = (!tbS xs false && ((tbR xs).isEmpty && bOf (TOK (tbO xs))))) := rfl
  have HBD : Hid (rtOK xs = false → rtC xs = 3 ∧ rtT xs = zTab) := rt_bad hb
  have HGD : Hid (rtOK xs = true → rtC xs = 0 ∧ rtT xs = tbO xs) := rt_ok hb
  obtain ⟨⟨tm, nx, ls, ss⟩, HT⟩ : ∃ t, Hid (tbO xs = t) := ⟨_, rfl⟩
  obtain ⟨rs, HRS⟩ : ∃ rs, Hid (tbR xs = rs) := ⟨_, rfl⟩
  obtain ⟨sb, HSB⟩ : ∃ sb, Hid (tbS xs false = sb) := ⟨_, rfl⟩
  rw [HT.out, HRS.out, HSB.out] at HTK HOK
  rw [HT.out] at HTS HGD
  dsimp only at HTK HTS
  have HTS' : Hid (∀ _ : Unit, ls.length ≤ 255 ∧ ss.length ≤ 255 ∧ ∀ x ∈ ls, x.n.size ≤ 1048576 ∧ x.ws.length ≤ 1048576) := fun _ => HTS
  clear H0 hr HTS HT HRS HSB hb
  go_enter Tryz.func121, Tryz.ntmps121
  go_wp2_with fail
  rw [show w.heap.size + 1 + 1 = w.heap.size + 2 from rfl]
  refine HTK.out.mono ?_
  rintro e w4 ⟨u2, u3, ms, rfl, hm, r4, ha, hbb, g4, s4⟩
  obtain ⟨la, lc, rfl⟩ := hm.2.ol.slice
  obtain ⟨sa, sc, rfl⟩ := hm.2.os.slice
  obtain ⟨v4, p4, a', cap', rfl, _, _, _⟩ := r4
  have HML : Hid (ms.map (·.1) = ls) := hm.1
  have J0 : Hid (Jt w (w4.alloc (.cells #[.int .i64 tm, .int .i64 nx, .slice la ms.length lc, .slice sa ss.length sc] 36)) w4.heap.size tm nx (.slice la ms.length lc) (.slice sa ss.length sc) ms ss) :=
    ⟨(Below.heap_alloc _ _ _ (by omega)).trans ha, (Below.heap_alloc _ _ _ (by omega)).trans hbb, heap_alloc_new _ _, g4.alloc g4.size _, hm.2.below (by exact (Below.refl _ _).alloc (Nat.le_refl _) _)⟩
  have P5 := (Below.heap_alloc w4 (.cells #[.int .i64 tm, .int .i64 nx, .slice la ms.length lc, .slice sa ss.length sc] 36) _ (show w.heap.size + 2 < w4.heap.size by omega)).trans p4
  clear HTK hm ha hbb g4 p4
  unfold tabV
  go_upto_region 6 with fail
  generalize (w4.alloc (.cells #[.int .i64 tm, .int .i64 nx, .slice la ms.length lc, .slice sa ss.length sc] 36)) = w5 at J0 P5 ⊢
  generalize w4.heap.size = x5 at J0 ⊢
  obtain ⟨p0, _⟩ := blk_cell P5 0 (x := .slice a' rs.length cap') rfl
  obtain ⟨p1, _⟩ := blk_cell P5 1 (x := .bool sb) rfl
  obtain ⟨ln, HLN⟩ : ∃ ln, Hid (ms.length = ln) := ⟨_, rfl⟩
  obtain ⟨sn, HSN⟩ : ∃ sn, Hid (ss.length = sn) := ⟨_, rfl⟩
  rw [HLN.out, HSN.out] at J0 ⊢
  clear P5
  rcases Bool.eq_false_or_eq_true sb with hsb | hsb
  case inl =>
    rw [hsb] at p1
    have HN : Hid (rtC xs = 3 ∧ rtT xs = zTab) := HBD.out (by rw [HOK.out, hsb]; rfl)
    have J := J0
    clear J0
    have y0 := (blk_cell J.out.b 0 (x := .int .i64 0) rfl).1
    obtain ⟨zc0, zf0⟩ := blk_cell J.out.a 0 (x := .int .i64 0) rfl
    have y1 := (blk_cell J.out.b 1 (x := .int .i64 0) rfl).1
    obtain ⟨zc1, zf1⟩ := blk_cell J.out.a 1 (x := .int .i64 0) rfl
    have y2 := (blk_cell J.out.b 2 (x := .slice none 0 0) rfl).1
    obtain ⟨zc2, zf2⟩ := blk_cell J.out.a 2 (x := .slice none 0 0) rfl
    have y3 := (blk_cell J.out.b 3 (x := .slice none 0 0) rfl).1
    obtain ⟨zc3, zf3⟩ := blk_cell J.out.a 3 (x := .slice none 0 0) rfl
    have AF : Hid (((((w5.setCell ⟨w.heap.size, 0, none⟩ (.int .i64 0)).setCell ⟨w.heap.size, 1, none⟩ (.int .i64 0)).setCell ⟨w.heap.size, 2, none⟩ (.slice none 0 0)).setCell ⟨w.heap.size, 3, none⟩ (.slice none 0 0)).heap[w.heap.size]? = some (.cells #[.int .i64 0, .int .i64 0, .slice none 0 0, .slice none 0 0] 36 (0, 0)) ∧ Below w.heap.size w ((((w5.setCell ⟨w.heap.size, 0, none⟩ (.int .i64 0)).setCell ⟨w.heap.size, 1, none⟩ (.int .i64 0)).setCell ⟨w.heap.size, 2, none⟩ (.slice none 0 0)).setCell ⟨w.heap.size, 3, none⟩ (.slice none 0 0)) ∧ Mem ((((w5.setCell ⟨w.heap.size, 0, none⟩ (.int .i64 0)).setCell ⟨w.heap.size, 1, none⟩ (.int .i64 0)).setCell ⟨w.heap.size, 2, none⟩ (.slice none 0 0)).setCell ⟨w.heap.size, 3, none⟩ (.slice none 0 0)) (w.heap.size + 3) (.slice la ln lc) (.slice sa sn sc) ms ss) :=
      ⟨blk_set (blk_set (blk_set (blk_set J.out.a 0 _) 1 _) 2 _) 3 _, Below.setCell (Below.setCell (Below.setCell (Below.setCell J.out.g (p := ⟨w.heap.size, 0, none⟩) (Nat.le_refl _) _) (p := ⟨w.heap.size, 1, none⟩) (Nat.le_refl _) _) (p := ⟨w.heap.size, 2, none⟩) (Nat.le_refl _) _) (p := ⟨w.heap.size, 3, none⟩) (Nat.le_refl _) _, J.out.m.kept fun g hg _ => (blk_far (by omega) 3 _).trans ((blk_far (by omega) 2 _).trans ((blk_far (by omega) 1 _).trans (blk_far (by omega) 0 _)))⟩
    clear J
    go_wp2_with fail
    generalize ((((w5.setCell ⟨w.heap.size, 0, none⟩ (.int .i64 0)).setCell ⟨w.heap.size, 1, none⟩ (.int .i64 0)).setCell ⟨w.heap.size, 2, none⟩ (.slice none 0 0)).setCell ⟨w.heap.size, 3, none⟩ (.slice none 0 0)) = wf at AF ⊢
    have d0 := (blk_cell AF.out.1 0 (x := .int .i64 0) rfl).1
    have d1 := (blk_cell AF.out.1 1 (x := .int .i64 0) rfl).1
    have d2 := (blk_cell AF.out.1 2 (x := .slice none 0 0) rfl).1
    have d3 := (blk_cell AF.out.1 3 (x := .slice none 0 0) rfl).1
    refine bodyPost_ret (v := .tuple #[.agg #[.int .i64 0, .int .i64 0, .slice none 0 0, .slice none 0 0], .int .i64 3]) (by simp [results, Tryz.results121, go_sem, d0, d1, d2, d3]) rfl ?_
    exact ⟨.slice none 0 0, .slice none 0 0, [], by rw [HN.out.1, HN.out.2]; rfl, ⟨by rw [HN.out.2]; rfl, by rw [HN.out.2]; exact Mem.nil _ _⟩, AF.out.2.1⟩
  case inr =>
    rw [hsb] at p1
    rcases rs with _ | ⟨y, ys⟩
    rotate_left
    · have HN : Hid (rtC xs = 3 ∧ rtT xs = zTab) := HBD.out (by rw [HOK.out, hsb]; rfl)
      have hlen : 0 < (y :: ys).length := Nat.succ_pos _
      have hdec : decide (0 < (y :: ys).length) = true := decide_eq_true hlen
      clear HOK
      generalize (y :: ys).length = len at p0 hlen hdec
      have J := J0
      clear J0
      have y0 := (blk_cell J.out.b 0 (x := .int .i64 0) rfl).1
      obtain ⟨zc0, zf0⟩ := blk_cell J.out.a 0 (x := .int .i64 0) rfl
      have y1 := (blk_cell J.out.b 1 (x := .int .i64 0) rfl).1
      obtain ⟨zc1, zf1⟩ := blk_cell J.out.a 1 (x := .int .i64 0) rfl
      have y2 := (blk_cell J.out.b 2 (x := .slice none 0 0) rfl).1
      obtain ⟨zc2, zf2⟩ := blk_cell J.out.a 2 (x := .slice none 0 0) rfl
      have y3 := (blk_cell J.out.b 3 (x := .slice none 0 0) rfl).1
      obtain ⟨zc3, zf3⟩ := blk_cell J.out.a 3 (x := .slice none 0 0) rfl
      have AF : Hid (((((w5.setCell ⟨w.heap.size, 0, none⟩ (.int .i64 0)).setCell ⟨w.heap.size, 1, none⟩ (.int .i64 0)).setCell ⟨w.heap.size, 2, none⟩ (.slice none 0 0)).setCell ⟨w.heap.size, 3, none⟩ (.slice none 0 0)).heap[w.heap.size]? = some (.cells #[.int .i64 0, .int .i64 0, .slice none 0 0, .slice none 0 0] 36 (0, 0)) ∧ Below w.heap.size w ((((w5.setCell ⟨w.heap.size, 0, none⟩ (.int .i64 0)).setCell ⟨w.heap.size, 1, none⟩ (.int .i64 0)).setCell ⟨w.heap.size, 2, none⟩ (.slice none 0 0)).setCell ⟨w.heap.size, 3, none⟩ (.slice none 0 0)) ∧ Mem ((((w5.setCell ⟨w.heap.size, 0, none⟩ (.int .i64 0)).setCell ⟨w.heap.size, 1, none⟩ (.int .i64 0)).setCell ⟨w.heap.size, 2, none⟩ (.slice none 0 0)).setCell ⟨w.heap.size, 3, none⟩ (.slice none 0 0)) (w.heap.size + 3) (.slice la ln lc) (.slice sa sn sc) ms ss) :=
        ⟨blk_set (blk_set (blk_set (blk_set J.out.a 0 _) 1 _) 2 _) 3 _, Below.setCell (Below.setCell (Below.setCell (Below.setCell J.out.g (p := ⟨w.heap.size, 0, none⟩) (Nat.le_refl _) _) (p := ⟨w.heap.size, 1, none⟩) (Nat.le_refl _) _) (p := ⟨w.heap.size, 2, none⟩) (Nat.le_refl _) _) (p := ⟨w.heap.size, 3, none⟩) (Nat.le_refl _) _, J.out.m.kept fun g hg _ => (blk_far (by omega) 3 _).trans ((blk_far (by omega) 2 _).trans ((blk_far (by omega) 1 _).trans (blk_far (by omega) 0 _)))⟩
      clear J
      go_wp2_with fail
      generalize ((((w5.setCell ⟨w.heap.size, 0, none⟩ (.int .i64 0)).setCell ⟨w.heap.size, 1, none⟩ (.int .i64 0)).setCell ⟨w.heap.size, 2, none⟩ (.slice none 0 0)).setCell ⟨w.heap.size, 3, none⟩ (.slice none 0 0)) = wf at AF ⊢
      have d0 := (blk_cell AF.out.1 0 (x := .int .i64 0) rfl).1
      have d1 := (blk_cell AF.out.1 1 (x := .int .i64 0) rfl).1
      have d2 := (blk_cell AF.out.1 2 (x := .slice none 0 0) rfl).1
      have d3 := (blk_cell AF.out.1 3 (x := .slice none 0 0) rfl).1
      refine bodyPost_ret (v := .tuple #[.agg #[.int .i64 0, .int .i64 0, .slice none 0 0, .slice none 0 0], .int .i64 3]) (by simp [results, Tryz.results121, go_sem, d0, d1, d2, d3]) rfl ?_
      exact ⟨.slice none 0 0, .slice none 0 0, [], by rw [HN.out.1, HN.out.2]; rfl, ⟨by rw [HN.out.2]; rfl, by rw [HN.out.2]; exact Mem.nil _ _⟩, AF.out.2.1⟩
    · have HOK2 : Hid (rtOK xs = bOf (TOK ⟨tm, nx, ls, ss⟩)) := by rw [HOK.out, hsb]; rfl
      clear HOK
      have HTO : Hid (Calls Tryz.prog 102 #[.agg #[.int .i64 tm, .int .i64 nx, .slice la ln lc, .slice sa sn sc]] w5 fun e w' => e = .returned (.bool (bOf (TOK ⟨tm, nx, ls, ss⟩))) ∧ Below w5.heap.size w5 w') := by
        obtain ⟨r1, r2⟩ := J0.out.m.rows
        rw [HML.out] at r1
        obtain ⟨t1, t2, t3⟩ := HTS'.out ()
        exact implTableOK_any tm nx _ _ ls ss w5 r1 r2 t3 (by omega) (by omega)
      have x0 := (blk_cell J0.out.x 0 (x := .int .i64 tm) rfl).1
      have x1 := (blk_cell J0.out.x 1 (x := .int .i64 nx) rfl).1
      have x2 := (blk_cell J0.out.x 2 (x := .slice la ln lc) rfl).1
      have x3 := (blk_cell J0.out.x 3 (x := .slice sa sn sc) rfl).1
      generalize bOf (TOK ⟨tm, nx, ls, ss⟩) = bb at HTO HOK2
      go_wp2_with fail
      refine HTO.out.mono ?_
      rintro e w6 ⟨rfl, b6⟩
      have J : Hid (Jt w w6 x5 tm nx (.slice la ln lc) (.slice sa sn sc) ms ss) := J0.out.below b6
      clear J0 b6 HTO x0 x1 x2 x3 p0 p1
      cases bb
      case false =>
        have HN : Hid (rtC xs = 3 ∧ rtT xs = zTab) := HBD.out HOK2.out
        have y0 := (blk_cell J.out.b 0 (x := .int .i64 0) rfl).1
        obtain ⟨zc0, zf0⟩ := blk_cell J.out.a 0 (x := .int .i64 0) rfl
        have y1 := (blk_cell J.out.b 1 (x := .int .i64 0) rfl).1
        obtain ⟨zc1, zf1⟩ := blk_cell J.out.a 1 (x := .int .i64 0) rfl
        have y2 := (blk_cell J.out.b 2 (x := .slice none 0 0) rfl).1
        obtain ⟨zc2, zf2⟩ := blk_cell J.out.a 2 (x := .slice none 0 0) rfl
        have y3 := (blk_cell J.out.b 3 (x := .slice none 0 0) rfl).1
        obtain ⟨zc3, zf3⟩ := blk_cell J.out.a 3 (x := .slice none 0 0) rfl
        have AF : Hid (((((w6.setCell ⟨w.heap.size, 0, none⟩ (.int .i64 0)).setCell ⟨w.heap.size, 1, none⟩ (.int .i64 0)).setCell ⟨w.heap.size, 2, none⟩ (.slice none 0 0)).setCell ⟨w.heap.size, 3, none⟩ (.slice none 0 0)).heap[w.heap.size]? = some (.cells #[.int .i64 0, .int .i64 0, .slice none 0 0, .slice none 0 0] 36 (0, 0)) ∧ Below w.heap.size w ((((w6.setCell ⟨w.heap.size, 0, none⟩ (.int .i64 0)).setCell ⟨w.heap.size, 1, none⟩ (.int .i64 0)).setCell ⟨w.heap.size, 2, none⟩ (.slice none 0 0)).setCell ⟨w.heap.size, 3, none⟩ (.slice none 0 0)) ∧ Mem ((((w6.setCell ⟨w.heap.size, 0, none⟩ (.int .i64 0)).setCell ⟨w.heap.size, 1, none⟩ (.int .i64 0)).setCell ⟨w.heap.size, 2, none⟩ (.slice none 0 0)).setCell ⟨w.heap.size, 3, none⟩ (.slice none 0 0)) (w.heap.size + 3) (.slice la ln lc) (.slice sa sn sc) ms ss) :=
          ⟨blk_set (blk_set (blk_set (blk_set J.out.a 0 _) 1 _) 2 _) 3 _, Below.setCell (Below.setCell (Below.setCell (Below.setCell J.out.g (p := ⟨w.heap.size, 0, none⟩) (Nat.le_refl _) _) (p := ⟨w.heap.size, 1, none⟩) (Nat.le_refl _) _) (p := ⟨w.heap.size, 2, none⟩) (Nat.le_refl _) _) (p := ⟨w.heap.size, 3, none⟩) (Nat.le_refl _) _, J.out.m.kept fun g hg _ => (blk_far (by omega) 3 _).trans ((blk_far (by omega) 2 _).trans ((blk_far (by omega) 1 _).trans (blk_far (by omega) 0 _)))⟩
        clear J
        go_wp2_with fail
        generalize ((((w6.setCell ⟨w.heap.size, 0, none⟩ (.int .i64 0)).setCell ⟨w.heap.size, 1, none⟩ (.int .i64 0)).setCell ⟨w.heap.size, 2, none⟩ (.slice none 0 0)).setCell ⟨w.heap.size, 3, none⟩ (.slice none 0 0)) = wf at AF ⊢
        have d0 := (blk_cell AF.out.1 0 (x := .int .i64 0) rfl).1
        have d1 := (blk_cell AF.out.1 1 (x := .int .i64 0) rfl).1
        have d2 := (blk_cell AF.out.1 2 (x := .slice none 0 0) rfl).1
        have d3 := (blk_cell AF.out.1 3 (x := .slice none 0 0) rfl).1
        refine bodyPost_ret (v := .tuple #[.agg #[.int .i64 0, .int .i64 0, .slice none 0 0, .slice none 0 0], .int .i64 3]) (by simp [results, Tryz.results121, go_sem, d0, d1, d2, d3]) rfl ?_
        exact ⟨.slice none 0 0, .slice none 0 0, [], by rw [HN.out.1, HN.out.2]; rfl, ⟨by rw [HN.out.2]; rfl, by rw [HN.out.2]; exact Mem.nil _ _⟩, AF.out.2.1⟩
      case true =>
        have HN : Hid (rtC xs = 0 ∧ rtT xs = ⟨tm, nx, ls, ss⟩) := HGD.out HOK2.out
        have y0 := (blk_cell J.out.x 0 (x := .int .i64 tm) rfl).1
        obtain ⟨zc0, zf0⟩ := blk_cell J.out.a 0 (x := .int .i64 0) rfl
        have y1 := (blk_cell J.out.x 1 (x := .int .i64 nx) rfl).1
        obtain ⟨zc1, zf1⟩ := blk_cell J.out.a 1 (x := .int .i64 0) rfl
        have y2 := (blk_cell J.out.x 2 (x := .slice la ln lc) rfl).1
        obtain ⟨zc2, zf2⟩ := blk_cell J.out.a 2 (x := .slice none 0 0) rfl
        have y3 := (blk_cell J.out.x 3 (x := .slice sa sn sc) rfl).1
        obtain ⟨zc3, zf3⟩ := blk_cell J.out.a 3 (x := .slice none 0 0) rfl
        have AF : Hid (((((w6.setCell ⟨w.heap.size, 0, none⟩ (.int .i64 tm)).setCell ⟨w.heap.size, 1, none⟩ (.int .i64 nx)).setCell ⟨w.heap.size, 2, none⟩ (.slice la ln lc)).setCell ⟨w.heap.size, 3, none⟩ (.slice sa sn sc)).heap[w.heap.size]? = some (.cells #[.int .i64 tm, .int .i64 nx, .slice la ln lc, .slice sa sn sc] 36 (0, 0)) ∧ Below w.heap.size w ((((w6.setCell ⟨w.heap.size, 0, none⟩ (.int .i64 tm)).setCell ⟨w.heap.size, 1, none⟩ (.int .i64 nx)).setCell ⟨w.heap.size, 2, none⟩ (.slice la ln lc)).setCell ⟨w.heap.size, 3, none⟩ (.slice sa sn sc)) ∧ Mem ((((w6.setCell ⟨w.heap.size, 0, none⟩ (.int .i64 tm)).setCell ⟨w.heap.size, 1, none⟩ (.int .i64 nx)).setCell ⟨w.heap.size, 2, none⟩ (.slice la ln lc)).setCell ⟨w.heap.size, 3, none⟩ (.slice sa sn sc)) (w.heap.size + 3) (.slice la ln lc) (.slice sa sn sc) ms ss) :=
          ⟨blk_set (blk_set (blk_set (blk_set J.out.a 0 _) 1 _) 2 _) 3 _, Below.setCell (Below.setCell (Below.setCell (Below.setCell J.out.g (p := ⟨w.heap.size, 0, none⟩) (Nat.le_refl _) _) (p := ⟨w.heap.size, 1, none⟩) (Nat.le_refl _) _) (p := ⟨w.heap.size, 2, none⟩) (Nat.le_refl _) _) (p := ⟨w.heap.size, 3, none⟩) (Nat.le_refl _) _, J.out.m.kept fun g hg _ => (blk_far (by omega) 3 _).trans ((blk_far (by omega) 2 _).trans ((blk_far (by omega) 1 _).trans (blk_far (by omega) 0 _)))⟩
        clear J
        go_wp2_with fail
        generalize ((((w6.setCell ⟨w.heap.size, 0, none⟩ (.int .i64 tm)).setCell ⟨w.heap.size, 1, none⟩ (.int .i64 nx)).setCell ⟨w.heap.size, 2, none⟩ (.slice la ln lc)).setCell ⟨w.heap.size, 3, none⟩ (.slice sa sn sc)) = wf at AF ⊢
        have d0 := (blk_cell AF.out.1 0 (x := .int .i64 tm) rfl).1
        have d1 := (blk_cell AF.out.1 1 (x := .int .i64 nx) rfl).1
        have d2 := (blk_cell AF.out.1 2 (x := .slice la ln lc) rfl).1
        have d3 := (blk_cell AF.out.1 3 (x := .slice sa sn sc) rfl).1
        refine bodyPost_ret (v := .tuple #[.agg #[.int .i64 tm, .int .i64 nx, .slice la ln lc, .slice sa sn sc], .int .i64 0]) (by simp [results, Tryz.results121, go_sem, d0, d1, d2, d3]) rfl ?_
        exact ⟨_, _, ms, by rw [HN.out.1, HN.out.2]; rfl, ⟨by rw [HN.out.2]; exact HML.out, by rw [HN.out.2]; exact AF.out.2.2.mono (by omega)⟩, AF.out.2.1⟩
set_option maxRecDepth 100000 in
set_option maxHeartbeats 1600000 in
theorem implReadTable_any (v : Value) (xs : List Int) (w : World) (h : RowB w v xs) :
    Calls Tryz.prog 89 #[v] w fun e w' => ∃ u2 u3 ms, e = .returned (.tuple #[tabV (rtT xs).tm (rtT xs).nx u2 u3, .int .i64 (rtC xs)]) ∧ (ms.map (·.1) = (rtT xs).ls ∧ Mem w' w.heap.size u2 u3 ms (rtT xs).ss) ∧ Below w.heap.size w w' := by
  have HJ : Hid (Calls Tryz.prog 121 #[v, .func (Fn.func 122) #[] #[], .func (Fn.func 102) #[] #[]] (w.alloc (.cells #[.int .i64 0, .int .i64 0, .slice none 0 0, .slice none 0 0] 36)) fun e w' => ∃ u2 u3 ms, e = .returned (.tuple #[tabV (rtT xs).tm (rtT xs).nx u2 u3, .int .i64 (rtC xs)]) ∧ (ms.map (·.1) = (rtT xs).ls ∧ Mem w' (w.heap.size + 1) u2 u3 ms (rtT xs).ss) ∧ Below (w.heap.size + 1) (w.alloc (.cells #[.int .i64 0, .int .i64 0, .slice none 0 0, .slice none 0 0] 36)) w') := by
    have := readJust_any v xs (w.alloc (.cells #[.int .i64 0, .int .i64 0, .slice none 0 0, .slice none 0 0] 36)) (h.below ((Below.refl _ _).alloc (Nat.le_refl _) _))
    rw [size_new] at this
    exact this
  obtain ⟨⟨tm, nx, ls, ss⟩, HT⟩ : ∃ t, Hid (rtT xs = t) := ⟨_, rfl⟩
  obtain ⟨RC, HC⟩ : ∃ c, Hid (rtC xs = c) := ⟨_, rfl⟩
  rw [HT.out, HC.out] at HJ
  rw [HT.out, HC.out]
  dsimp only at HJ ⊢
  clear h HT HC
  go_enter Tryz.func89, Tryz.ntmps89
  go_wp2_with fail
  refine HJ.out.mono ?_
  rintro e w1 ⟨u2, u3, ms, rfl, hm, b1⟩
  obtain ⟨la, lc, rfl⟩ := hm.2.ol.slice
  obtain ⟨sa, sc, rfl⟩ := hm.2.os.slice
  have A1 : w1.heap[w.heap.size]? = some (.cells #[.int .i64 0, .int .i64 0, .slice none 0 0, .slice none 0 0] 36 (0, 0)) := (b1.block _ (by omega)).trans (heap_alloc_new w _)
  have G1 : Hid (Below w.heap.size w w1 ∧ ms.map (·.1) = ls ∧ Mem w1 (w.heap.size + 1) (.slice la ms.length lc) (.slice sa ss.length sc) ms ss) := ⟨((Below.refl _ _).alloc (Nat.le_refl _) _).trans (b1.mono (by omega)), hm.1, hm.2⟩
  obtain ⟨ln, HLN⟩ : ∃ ln, Hid (ms.length = ln) := ⟨_, rfl⟩
  obtain ⟨sn, HSN⟩ : ∃ sn, Hid (ss.length = sn) := ⟨_, rfl⟩
  rw [HLN.out, HSN.out] at G1 ⊢
  unfold tabV
  clear hm b1 HJ
  obtain ⟨zc0, zf0⟩ := blk_cell A1 0 (x := .int .i64 0) rfl
  obtain ⟨zc1, zf1⟩ := blk_cell A1 1 (x := .int .i64 0) rfl
  obtain ⟨zc2, zf2⟩ := blk_cell A1 2 (x := .slice none 0 0) rfl
  obtain ⟨zc3, zf3⟩ := blk_cell A1 3 (x := .slice none 0 0) rfl
  have AF : Hid (((((w1.setCell ⟨w.heap.size, 0, none⟩ (.int .i64 tm)).setCell ⟨w.heap.size, 1, none⟩ (.int .i64 nx)).setCell ⟨w.heap.size, 2, none⟩ (.slice la ln lc)).setCell ⟨w.heap.size, 3, none⟩ (.slice sa sn sc)).heap[w.heap.size]? = some (.cells #[.int .i64 tm, .int .i64 nx, .slice la ln lc, .slice sa sn sc] 36 (0, 0)) ∧ Below w.heap.size w ((((w1.setCell ⟨w.heap.size, 0, none⟩ (.int .i64 tm)).setCell ⟨w.heap.size, 1, none⟩ (.int .i64 nx)).setCell ⟨w.heap.size, 2, none⟩ (.slice la ln lc)).setCell ⟨w.heap.size, 3, none⟩ (.slice sa sn sc)) ∧ ms.map (·.1) = ls ∧ Mem ((((w1.setCell ⟨w.heap.size, 0, none⟩ (.int .i64 tm)).setCell ⟨w.heap.size, 1, none⟩ (.int .i64 nx)).setCell ⟨w.heap.size, 2, none⟩ (.slice la ln lc)).setCell ⟨w.heap.size, 3, none⟩ (.slice sa sn sc)) (w.heap.size + 1) (.slice la ln lc) (.slice sa sn sc) ms ss) :=
    ⟨blk_set (blk_set (blk_set (blk_set A1 0 _) 1 _) 2 _) 3 _, Below.setCell (Below.setCell (Below.setCell (Below.setCell G1.out.1 (p := ⟨w.heap.size, 0, none⟩) (Nat.le_refl _) _) (p := ⟨w.heap.size, 1, none⟩) (Nat.le_refl _) _) (p := ⟨w.heap.size, 2, none⟩) (Nat.le_refl _) _) (p := ⟨w.heap.size, 3, none⟩) (Nat.le_refl _) _, G1.out.2.1, G1.out.2.2.kept fun g hg _ => (blk_far (by omega) 3 _).trans ((blk_far (by omega) 2 _).trans ((blk_far (by omega) 1 _).trans (blk_far (by omega) 0 _)))⟩
  clear G1 A1
  go_wp2_with fail
  generalize ((((w1.setCell ⟨w.heap.size, 0, none⟩ (.int .i64 tm)).setCell ⟨w.heap.size, 1, none⟩ (.int .i64 nx)).setCell ⟨w.heap.size, 2, none⟩ (.slice la ln lc)).setCell ⟨w.heap.size, 3, none⟩ (.slice sa sn sc)) = wf at AF ⊢
  have d0 := (blk_cell AF.out.1 0 (x := .int .i64 tm) rfl).1
  have d1 := (blk_cell AF.out.1 1 (x := .int .i64 nx) rfl).1
  have d2 := (blk_cell AF.out.1 2 (x := .slice la ln lc) rfl).1
  have d3 := (blk_cell AF.out.1 3 (x := .slice sa sn sc) rfl).1
  exact bodyPost_ret (v := .tuple #[.agg #[.int .i64 tm, .int .i64 nx, .slice la ln lc, .slice sa sn sc], .int .i64 RC]) (by simp [results, Tryz.results89, go_sem, d0, d1, d2, d3]) rfl ⟨_, _, ms, rfl, ⟨AF.out.2.2.1, AF.out.2.2.2.mono (by omega)⟩, AF.out.2.1⟩
end Go.Proofs.YtnebohdlndiejaaGreatDoor.Ur
