/- Tables that are right: the program's parts. -/
import Derived.Test.YtlgfeohoebmbcaaGreatTw4
namespace Go.Proofs.YtlgfeohoebmbcaaGreat.Tp
open Go.RowKit Go.Proofs.YtlgfeohoebmbcaaGreat.Sl Go.Proofs.YtlgfeohoebmbcaaGreat.Ap Go.Proofs.YtlgfeohoebmbcaaGreat.Tx Go.Proofs.YtlgfeohoebmbcaaGreat.Tb Go.Proofs.YtlgfeohoebmbcaaGreat.Tw Go.Proofs.YtlgfeohoebmbcaaGreat.Rq

/-- A sentence as a truth value. -/
noncomputable def bOf (p : Prop) : Bool := @decide p (Classical.propDecidable p)
theorem bOf_true {p : Prop} (h : p) : bOf p = true := by unfold bOf; simp [h]
theorem bOf_false {p : Prop} (h : ¬ p) : bOf p = false := by unfold bOf; simp [h]
/-- r is the first place of a client among those that wait, -1 without one. -/
def FstOf (ws : List Wt) (c : Int) (r : Int) : Prop := (r = -1 ∧ ∀ (j : Nat) (y : Wt), ws[j]? = some y → y.c ≠ c) ∨ ∃ (k : Nat) (x : Wt), r = k ∧ ws[k]? = some x ∧ x.c = c ∧ ∀ (j : Nat) (y : Wt), j < k → ws[j]? = some y → y.c ≠ c
def WOne (h : Int) (ws : List Wt) (k : Nat) (x : Wt) : Prop := inB x.c 0 255 = true ∧ inB x.l 1 1000 = true ∧ x.c ≠ h ∧ ∀ (j : Nat) (y : Wt), j < k → ws[j]? = some y → y.c ≠ x.c
def WsOK (h : Int) (ws : List Wt) : Prop := ∀ k x, ws[k]? = some x → WOne h ws k x
def HdOK (l : Lk) : Prop := (l.h = -1 ∧ l.e = 0 ∧ l.ws.length = 0) ∨ (l.h ≠ -1 ∧ inB l.h 0 255 = true ∧ inB l.e 0 2000000000 = true ∧ l.ws.length ≤ 4 ∧ WsOK l.h l.ws)
def pn (ls : List Lk) (i : Nat) : ByteArray := if i = 0 then ⟨#[]⟩ else (ls.getD (i - 1) default).n
def LOne (nx : Int) (p : ByteArray) (l : Lk) : Prop := (Op.bytesLess l.n.toList p.toList || l.n.toList == p.toList) = false ∧ opB l.n = true ∧ inB l.t 0 (nx - 1) = true ∧ HdOK l
def LsOK (nx : Int) (ls : List Lk) : Prop := ∀ i l, ls[i]? = some l → LOne nx (pn ls i) l
def AnsOK (k t h e : Int) : Prop := inB k 1 8 = true ∧ inB t 0 1000000 = true ∧ inB h (-1) 255 = true ∧ inB e 0 2000000000 = true
def pc (ss : List Sn) (i : Nat) : Int := if i = 0 then 0 else (ss.getD (i - 1) default).c + 1
def SOne (p : Int) (s : Sn) : Prop := inB s.c p 255 = true ∧ inB s.s 1 65535 = true ∧ AnsOK s.k s.t s.h s.e
def SsOK (ss : List Sn) : Prop := ∀ i s, ss[i]? = some s → SOne (pc ss i) s
def TOK (t : Tab) : Prop := inB t.tm 0 1000000000 = true ∧ inB t.nx 1 1000000 = true ∧ t.ls.length ≤ 4 ∧ LsOK t.nx t.ls ∧ t.ss.length ≤ 6 ∧ SsOK t.ss
theorem pn_succ {ls : List Lk} {k : Nat} {x : Lk} (h : ls[k]? = some x) : pn ls (k + 1) = x.n := by
  unfold pn
  rw [if_neg (by omega), Nat.add_sub_cancel, List.getD_eq_getElem?_getD, h]
  rfl
theorem pc_succ {ss : List Sn} {k : Nat} {x : Sn} (h : ss[k]? = some x) : pc ss (k + 1) = x.c + 1 := by
  unfold pc
  rw [if_neg (by omega), Nat.add_sub_cancel, List.getD_eq_getElem?_getD, h]
  rfl
theorem inB_le {x a b : Int} (h : inB x a b = true) : a ≤ x ∧ x ≤ b := by unfold inB at h; simpa using h
/-- The rounds so far, and one more. -/
theorem upto {α : Type} {xs : List α} {k : Nat} {P : Nat → α → Prop} (h : ∀ j y, j < k → xs[j]? = some y → P j y) {x : α} (hx : xs[k]? = some x) (hp : P k x) : ∀ j y, j < k + 1 → xs[j]? = some y → P j y := fun j y hj hy => by
  by_cases e : j = k
  · subst e
    rw [hx] at hy
    cases hy
    exact hp
  · exact h j y (by omega) hy

set_option maxRecDepth 100000 in
set_option maxHeartbeats 800000 in
theorem waits1_any (x : Wt) (p : Nat) (c : Int) (w : World) (h : w.cell? ⟨p, 0, none⟩ = some (.int .i64 c)) :
    Calls Tryz.prog 151 #[wtV x, .pointer (some ⟨p, 0, none⟩)] w fun e w' => e = .returned (.bool (x.c == c)) ∧ Below w.heap.size w w' := by
  unfold wtV
  have hp := World.block_lt_of_cell? w _ h
  have h2 : ∀ o, (w.alloc o).cell? ⟨p, 0, none⟩ = some (.int .i64 c) := fun o => (World.cell?_alloc_lt _ _ _ hp).trans h
  go_enter Tryz.func151, Tryz.ntmps151
  go_wp2_with fail
  go_ret
  exact ⟨rfl, bel_new _ _⟩
set_option maxRecDepth 100000 in
set_option maxHeartbeats 800000 in
theorem indexFunc_any (v : Value) (xs : List Wt) (c : Int) (p : Nat) (w : World) (h : RowW w v xs) (hl : xs.length ≤ 1048576) (hc : w.cell? ⟨p, 0, none⟩ = some (.int .i64 c)) :
    Calls Tryz.prog 150 #[v, .func (.func 151) #[] #[.pointer (some ⟨p, 0, none⟩)]] w fun e w' => (∃ r, e = .returned (.int .i64 r) ∧ FstOf xs c r) ∧ Below w.heap.size w w' := by
  have HR : Hid (RowW w v xs ∧ w.cell? ⟨p, 0, none⟩ = some (.int .i64 c)) := ⟨h, hc⟩
  obtain ⟨a, cap, rfl⟩ := RowG.slice h
  clear h hc
  go_enter Tryz.func150, Tryz.ntmps150
  go_wp2_with fail
  go_loopw [8] (fun i wr => ∃ k : Nat, k ≤ xs.length ∧ i = .int .i64 k ∧ Hid ((∀ (j : Nat) (y : Wt), j < k → xs[j]? = some y → y.c ≠ c) ∧ Below w.heap.size w wr)) (fun i _ => xs.length - (intOf i).toNat)
  case atStart => exact ⟨0, by omega, rfl, ⟨fun j y hj => by omega, Below.refl _ _⟩⟩
  case round =>
    obtain ⟨k, hk, rfl, HK⟩ := hrel
    by_cases hlt : k < xs.length
    · obtain ⟨x, hx⟩ := Tw.get_at hlt
      obtain ⟨b, off, rfl, hbl, c0, c1⟩ := RowG.at (HR.out.1.below HK.out.2) rfl hx
      have HX : Hid (xs[k]? = some x ∧ wr.cell? ⟨p, 0, none⟩ = some (.int .i64 c)) := ⟨hx, (HK.out.2.cell (World.block_lt_of_cell? w _ HR.out.2)).trans HR.out.2⟩
      clear hx
      go_wp2_with fail
      refine (waits1_any x p c wr HX.out.2).mono ?_
      rintro e w2 ⟨rfl, b2⟩
      have HB2 : Hid (Below w.heap.size w w2) := HK.out.2.trans (b2.mono HK.out.2.size)
      clear b2
      by_cases he : x.c = c
      · have he' : (x.c == c) = true := by simpa using he
        rw [he']
        have HE : Hid (x.c = c) := he
        clear he he'
        go_wp2_with fail
        go_ret
        exact ⟨⟨_, rfl, Or.inr ⟨k, x, rfl, HX.out.1, HE.out, HK.out.1⟩⟩, HB2.out⟩
      · have he' : (x.c == c) = false := by simpa using he
        rw [he']
        have HE : Hid (x.c ≠ c) := he
        clear he he'
        go_wp2_with fail
        exact ⟨⟨k + 1, by omega, by go_num, ⟨upto (P := fun _ y => y.c ≠ c) HK.out.1 HX.out.1 HE.out, HB2.out⟩⟩, by simp [intOf]; omega⟩
    · obtain rfl : k = xs.length := by omega
      go_wp2_with fail
      go_ret
      exact ⟨⟨_, rfl, Or.inl ⟨rfl, fun j y hy => HK.out.1 j y (lt_at hy) hy⟩⟩, HK.out.2⟩
set_option maxRecDepth 100000 in
set_option maxHeartbeats 800000 in
theorem waitsAt_any (v : Value) (xs : List Wt) (c : Int) (w : World) (h : RowW w v xs) (hl : xs.length ≤ 1048576) :
    Calls Tryz.prog 130 #[v, .int .i64 c] w fun e w' => (∃ r, e = .returned (.int .i64 r) ∧ FstOf xs c r) ∧ Below w.heap.size w w' := by
  have HR : Hid (RowW w v xs) := h
  obtain ⟨a, cap, rfl⟩ := RowG.slice h
  clear h
  have HB : Hid (Below w.heap.size w (w.alloc (.cells #[.int .i64 c] 3))) := bel_new _ _
  have HC : Hid ((w.alloc (.cells #[.int .i64 c] 3)).cell? ⟨w.heap.size, 0, none⟩ = some (.int .i64 c)) := (blk_cell (blk_new w _ _) 0 rfl).1
  go_enter Tryz.func130, Tryz.ntmps130
  go_wp2_with fail
  refine (indexFunc_any _ xs c w.heap.size _ (HR.out.below HB.out) hl HC.out).mono ?_
  rintro e w2 ⟨⟨r, rfl, hr⟩, b2⟩
  have HF : Hid (FstOf xs c r ∧ Below w.heap.size w w2) := ⟨hr, HB.out.trans (b2.mono HB.out.size)⟩
  clear hr b2
  go_wp2_with fail
  go_ret
  exact ⟨⟨_, rfl, HF.out.1⟩, HF.out.2⟩
/-- At a client's own place: is there an earlier one? -/
theorem fst_own {ws : List Wt} {k : Nat} {x : Wt} {r : Int} (hx : ws[k]? = some x) (h : FstOf ws x.c r) : (r < (k : Int)) ↔ ¬ ∀ (j : Nat) (y : Wt), j < k → ws[j]? = some y → y.c ≠ x.c := by
  rcases h with ⟨_, h⟩ | ⟨i, z, rfl, hz, hc, h⟩
  · exact absurd rfl (h k x hx)
  · constructor
    · intro hlt hh
      exact hh i z (by omega) hz hc
    · intro hn
      rcases Nat.lt_or_ge i k with hi | hi
      · omega
      · exact absurd (fun j y hj hy => h j y (by omega) hy) hn
set_option maxRecDepth 100000 in
set_option maxHeartbeats 1600000 in
theorem waitersOK_any (l : Lk) (u : Value) (w : World) (h : RowW w u l.ws) (hl : l.ws.length ≤ 1048576) :
    Calls Tryz.prog 144 #[lkV l u] w fun e w' => e = .returned (.bool (bOf (WsOK l.h l.ws))) ∧ Below w.heap.size w w' := by
  obtain ⟨ln, lt, hh, le, ws⟩ := l
  unfold lkV
  dsimp only at h hl ⊢
  obtain ⟨a, cap, rfl⟩ := RowG.slice h
  have HX : Hid (∀ W, Below (w.alloc (.cells #[.string ln, .int .i64 lt, .int .i64 hh, .int .i64 le, .slice a ws.length cap] 95)).heap.size (w.alloc (.cells #[.string ln, .int .i64 lt, .int .i64 hh, .int .i64 le, .slice a ws.length cap] 95)) W → W.cell? ⟨w.heap.size, 2, none⟩ = some (.int .i64 hh) ∧ W.cell? ⟨w.heap.size, 4, none⟩ = some (.slice a ws.length cap) ∧ RowW W (.slice a ws.length cap) ws ∧ Below w.heap.size w W) := fun W hW => by
    have h1 := (hW.block w.heap.size (by simp)).trans (heap_alloc_new w _)
    exact ⟨(blk_cell h1 2 rfl).1, (blk_cell h1 4 rfl).1, (h.below (bel_new _ _)).below hW, (bel_new w _).trans (hW.mono (by simp))⟩
  clear h
  go_enter Tryz.func144, Tryz.ntmps144
  go_upto_region 1 with fail
  generalize w.alloc (.cells #[.string ln, .int .i64 lt, .int .i64 hh, .int .i64 le, .slice a ws.length cap] 95) = wb at HX ⊢
  obtain ⟨x2, x4, _, _⟩ := HX.out wb (Below.refl _ _)
  go_wp2_with fail
  clear x2 x4
  go_loopw [8] (fun i wr => ∃ k : Nat, k ≤ ws.length ∧ i = .int .i64 k ∧ Hid ((∀ j y, j < k → ws[j]? = some y → WOne hh ws j y) ∧ Below wb.heap.size wb wr)) (fun i _ => ws.length - (intOf i).toNat)
  case atStart => exact ⟨0, by omega, rfl, ⟨fun j y hj => by omega, Below.refl _ _⟩⟩
  case round =>
    obtain ⟨k, hk, rfl, HK⟩ := hrel
    obtain ⟨x2, x4, hr0, hb0⟩ := HX.out wr HK.out.2
    have HB0 : Hid (Below w.heap.size w wr) := hb0
    by_cases hlt : k < ws.length
    · obtain ⟨x, hx⟩ := Tw.get_at hlt
      obtain ⟨b, off, rfl, hbl, c0, c1⟩ := RowG.at hr0 rfl hx
      have HN : Hid (WOne hh ws k x ↔ (inB x.c 0 255 = true ∧ inB x.l 1 1000 = true ∧ x.c ≠ hh ∧ ∀ (j : Nat) (y : Wt), j < k → ws[j]? = some y → y.c ≠ x.c)) := Iff.rfl
      have HNO : Hid (¬ WOne hh ws k x → bOf (WsOK hh ws) = false) := fun h => bOf_false fun hh => h (hh k x hx)
      have HYS : Hid (WOne hh ws k x → ∀ j y, j < k + 1 → ws[j]? = some y → WOne hh ws j y) := fun h => upto (P := fun j y => WOne hh ws j y) HK.out.1 hx h
      have HW : Hid (∀ o, Below wb.heap.size wb (wr.alloc o) ∧ Below w.heap.size w (wr.alloc o)) := fun o => ⟨HK.out.2.trans ((bel_new wr o).mono HK.out.2.size), HB0.out.trans ((bel_new wr o).mono HB0.out.size)⟩
      have y2 : ∀ o, (wr.alloc o).cell? ⟨w.heap.size, 2, none⟩ = some (.int .i64 hh) := fun o => (HX.out _ (HW.out o).1).1
      have y4 : ∀ o, (wr.alloc o).cell? ⟨w.heap.size, 4, none⟩ = some (.slice (some ⟨b, off, none⟩) ws.length cap) := fun o => (HX.out _ (HW.out o).1).2.1
      have HWA : Hid (∀ o, Calls Tryz.prog 130 #[.slice (some ⟨b, off, none⟩) ws.length cap, .int .i64 x.c] (wr.alloc o) fun e w' => (∃ r : Int, e = .returned (.int .i64 r) ∧ decide (r < (k : Int)) = bOf (¬ ∀ (j : Nat) (y : Wt), j < k → ws[j]? = some y → y.c ≠ x.c)) ∧ Below wb.heap.size wb w' ∧ Below w.heap.size w w') := fun o =>
        (waitsAt_any _ ws x.c _ (HX.out _ (HW.out o).1).2.2.1 hl).mono fun e w' ⟨⟨r, he, hf⟩, b2⟩ => ⟨⟨r, he, by
          have := fst_own hx hf
          by_cases hq : ∀ (j : Nat) (y : Wt), j < k → ws[j]? = some y → y.c ≠ x.c
          · rw [bOf_false (fun h => h hq), decide_eq_false (fun h => this.1 h hq)]
          · rw [bOf_true hq, decide_eq_true (this.2 hq)]⟩, (HW.out o).1.trans (b2.mono (HW.out o).1.size), (HW.out o).2.trans (b2.mono (HW.out o).2.size)⟩
      clear hx hr0 hb0 x2 x4
      cases h1 : inB x.c 0 255 with
      | false =>
        have HF : Hid (bOf (WsOK hh ws) = false) := HNO.out fun h => by have := (HN.out.1 h).1; rw [h1] at this; cases this
        go_wp2_with (go_at_call 82; refine (within_any _ _ _ _).mono ?_; rintro e w1 ⟨rfl, rfl⟩; rw [h1])
        go_ret
        exact ⟨ret_bool HF.out.symm, (HW.out _).2⟩
      | true =>
        cases h2 : inB x.l 1 1000 with
        | false =>
          have HF : Hid (bOf (WsOK hh ws) = false) := HNO.out fun h => by have := (HN.out.1 h).2.1; rw [h2] at this; cases this
          go_wp2_with (go_at_call 82; refine (within_any _ _ _ _).mono ?_; rintro e w1 ⟨rfl, rfl⟩; first | rw [h1] | rw [h2])
          go_ret
          exact ⟨ret_bool HF.out.symm, (HW.out _).2⟩
        | true =>
          by_cases h3 : x.c = hh
          · have HF : Hid (bOf (WsOK hh ws) = false) := HNO.out fun h => (HN.out.1 h).2.2.1 h3
            have h3' : (x.c == hh) = true := by simpa using h3
            clear h3
            go_wp2_with (go_at_call 82; refine (within_any _ _ _ _).mono ?_; rintro e w1 ⟨rfl, rfl⟩; first | rw [h1] | rw [h2])
            go_ret
            exact ⟨ret_bool HF.out.symm, (HW.out _).2⟩
          · have h3' : (x.c == hh) = false := by simpa using h3
            cases h4 : bOf (¬ ∀ (j : Nat) (y : Wt), j < k → ws[j]? = some y → y.c ≠ x.c) with
            | true =>
              have HF : Hid (bOf (WsOK hh ws) = false) := HNO.out fun h => by rw [bOf_false (fun hn => hn (HN.out.1 h).2.2.2)] at h4; cases h4
              rw [h4] at HWA
              clear h3 h4
              go_wp2_with (first | (go_at_call 82; refine (within_any _ _ _ _).mono ?_; rintro e w1 ⟨rfl, rfl⟩; first | rw [h1] | rw [h2]) | (go_at_call 130; refine (HWA.out _).mono ?_; rintro e w2 ⟨⟨r, rfl, hd⟩, g1, g2⟩))
              go_ret
              exact ⟨ret_bool HF.out.symm, g2⟩
            | false =>
              have HT : Hid (WOne hh ws k x) := HN.out.2 ⟨h1, h2, h3, Classical.byContradiction fun hn => by rw [bOf_true hn] at h4; cases h4⟩
              rw [h4] at HWA
              clear h3 h4
              go_wp2_with (first | (go_at_call 82; refine (within_any _ _ _ _).mono ?_; rintro e w1 ⟨rfl, rfl⟩; first | rw [h1] | rw [h2]) | (go_at_call 130; refine (HWA.out _).mono ?_; rintro e w2 ⟨⟨r, rfl, hd⟩, g1, g2⟩))
              exact ⟨⟨k + 1, by omega, by go_num, ⟨HYS.out HT.out, g1⟩⟩, by simp [intOf]; omega⟩
    · obtain rfl : k = ws.length := by omega
      have HT : Hid (bOf (WsOK hh ws) = true) := bOf_true fun j y hy => HK.out.1 j y (lt_at hy) hy
      clear hr0 hb0
      go_wp2_with fail
      go_ret
      exact ⟨ret_bool HT.out.symm, HB0.out⟩
end Go.Proofs.YtlgfeohoebmbcaaGreat.Tp
