/- Tables that are right: the program's locks, what was seen, the whole. -/
import Derived.Test.YtlgfeohoebmbcaaGreatTp
import Derived.Laws.Cover1
namespace Go.Proofs.YtlgfeohoebmbcaaGreat.Tp
open Go.RowKit Go.Proofs.YtlgfeohoebmbcaaGreat.Sl Go.Proofs.YtlgfeohoebmbcaaGreat.Ap Go.Proofs.YtlgfeohoebmbcaaGreat.Tx Go.Proofs.YtlgfeohoebmbcaaGreat.Tb Go.Proofs.YtlgfeohoebmbcaaGreat.Tw Go.Proofs.YtlgfeohoebmbcaaGreat.Rq

set_option maxRecDepth 100000 in
set_option maxHeartbeats 1600000 in
theorem holdOK_any (l : Lk) (u : Value) (w : World) (h : RowW w u l.ws) (hl : l.ws.length ≤ 1048576) :
    Calls Tryz.prog 119 #[lkV l u] w fun e w' => e = .returned (.bool (bOf (HdOK l))) ∧ Below w.heap.size w w' := by
  obtain ⟨a, cap, rfl⟩ := RowG.slice h
  have HD : Hid (HdOK l ↔ ((l.h = -1 ∧ l.e = 0 ∧ l.ws.length = 0) ∨ (l.h ≠ -1 ∧ inB l.h 0 255 = true ∧ inB l.e 0 2000000000 = true ∧ l.ws.length ≤ 4 ∧ WsOK l.h l.ws))) := Iff.rfl
  have HWO : Hid (∀ o, Calls Tryz.prog 144 #[.agg #[.string l.n, .int .i64 l.t, .int .i64 l.h, .int .i64 l.e, .slice a l.ws.length cap]] (w.alloc o) fun e w' => e = .returned (.bool (bOf (WsOK l.h l.ws))) ∧ Below w.heap.size w w') := fun o =>
    (waitersOK_any l _ _ (h.below (bel_new w o)) hl).mono fun e w' ⟨he, hb⟩ => ⟨he, (bel_new w o).trans (hb.mono (bel_new w o).size)⟩
  clear h
  unfold lkV
  by_cases h0 : l.h = -1
  · have h0' : (l.h == -1) = true := by simpa using h0
    by_cases he : l.e = 0
    · have he' : (l.e == 0) = true := by simpa using he
      by_cases hn : l.ws.length = 0
      · have hn' : ((l.ws.length : Int) == 0) = true := by simpa using hn
        have HF : Hid (bOf (HdOK l) = true) := bOf_true (HD.out.2 (.inl ⟨h0, he, hn⟩))
        clear h0 he hn hl
        go_enter Tryz.func119, Tryz.ntmps119
        go_wp2_with fail
        go_ret
        exact ⟨ret_bool HF.out.symm, bel_new _ _⟩
      · have hn' : ((l.ws.length : Int) == 0) = false := by simpa using hn
        have HF : Hid (bOf (HdOK l) = false) := bOf_false fun h => by rcases HD.out.1 h with h | h; exact hn h.2.2; exact h.1 h0
        clear h0 he hn hl
        go_enter Tryz.func119, Tryz.ntmps119
        go_wp2_with fail
        go_ret
        exact ⟨ret_bool HF.out.symm, bel_new _ _⟩
    · have he' : (l.e == 0) = false := by simpa using he
      have HF : Hid (bOf (HdOK l) = false) := bOf_false fun h => by rcases HD.out.1 h with h | h; exact he h.2.1; exact h.1 h0
      clear h0 he hl
      go_enter Tryz.func119, Tryz.ntmps119
      go_wp2_with fail
      go_ret
      exact ⟨ret_bool HF.out.symm, bel_new _ _⟩
  · have h0' : (l.h == -1) = false := by simpa using h0
    have HD2 : Hid (HdOK l ↔ (inB l.h 0 255 = true ∧ inB l.e 0 2000000000 = true ∧ l.ws.length ≤ 4 ∧ WsOK l.h l.ws)) := ⟨fun h => by rcases HD.out.1 h with h | h; exact absurd h.1 h0; exact h.2, fun h => HD.out.2 (.inr ⟨h0, h⟩)⟩
    clear HD h0
    cases h1 : inB l.h 0 255 with
    | false =>
      have HF : Hid (bOf (HdOK l) = false) := bOf_false fun h => by have := (HD2.out.1 h).1; rw [h1] at this; cases this
      clear hl
      go_enter Tryz.func119, Tryz.ntmps119
      go_wp2_with (go_at_call 82; refine (within_any _ _ _ _).mono ?_; rintro e w1 ⟨rfl, rfl⟩; rw [h1])
      go_ret
      exact ⟨ret_bool HF.out.symm, bel_new _ _⟩
    | true =>
      cases h2 : inB l.e 0 2000000000 with
      | false =>
        have HF : Hid (bOf (HdOK l) = false) := bOf_false fun h => by have := (HD2.out.1 h).2.1; rw [h2] at this; cases this
        clear hl
        go_enter Tryz.func119, Tryz.ntmps119
        go_wp2_with (go_at_call 82; refine (within_any _ _ _ _).mono ?_; rintro e w1 ⟨rfl, rfl⟩; first | rw [h1] | rw [h2])
        go_ret
        exact ⟨ret_bool HF.out.symm, bel_new _ _⟩
      | true =>
        by_cases h3 : l.ws.length ≤ 4
        · have h3' : (l.ws.length : Int) ≤ 4 := by omega
          have HF : Hid (bOf (HdOK l) = bOf (WsOK l.h l.ws)) := by
            show _ = _
            by_cases hw : WsOK l.h l.ws
            · rw [bOf_true hw, bOf_true (HD2.out.2 ⟨h1, h2, h3, hw⟩)]
            · rw [bOf_false hw, bOf_false fun h => hw (HD2.out.1 h).2.2.2]
          clear hl
          generalize bOf (WsOK l.h l.ws) = bb at HWO HF
          go_enter Tryz.func119, Tryz.ntmps119
          go_wp2_with (first | (go_at_call 82; refine (within_any _ _ _ _).mono ?_; rintro e w1 ⟨rfl, rfl⟩; first | rw [h1] | rw [h2]) | (go_at_call 144; refine (HWO.out _).mono ?_; rintro e w2 ⟨rfl, g2⟩))
          go_ret
          exact ⟨ret_bool HF.out.symm, g2⟩
        · have h3' : ¬ (l.ws.length : Int) ≤ 4 := by omega
          have h3'' : decide ((l.ws.length : Int) ≤ 4) = false := decide_eq_false h3'
          have HF : Hid (bOf (HdOK l) = false) := bOf_false fun h => h3 (HD2.out.1 h).2.2.1
          clear hl h3
          go_enter Tryz.func119, Tryz.ntmps119
          go_wp2_with (go_at_call 82; refine (within_any _ _ _ _).mono ?_; rintro e w1 ⟨rfl, rfl⟩; first | rw [h1] | rw [h2])
          go_ret
          exact ⟨ret_bool HF.out.symm, bel_new _ _⟩
set_option maxRecDepth 100000 in
set_option maxHeartbeats 1600000 in
theorem answerOK_any (k t h e0 : Int) (w : World) :
    Calls Tryz.prog 145 #[.agg #[.int .i64 k, .int .i64 t, .int .i64 h, .int .i64 e0]] w fun e w' => e = .returned (.bool (bOf (AnsOK k t h e0))) ∧ Below w.heap.size w w' := by
  cases h1 : inB k 1 8 with
  | false =>
    have HF : Hid (bOf (AnsOK k t h e0) = false) := bOf_false fun h => by have := (h.1); rw [h1] at this; cases this
    go_enter Tryz.func145, Tryz.ntmps145
    go_wp2_with (go_at_call 82; refine (within_any _ _ _ _).mono ?_; rintro e w1 ⟨rfl, rfl⟩; rw [h1])
    go_ret
    exact ⟨ret_bool HF.out.symm, bel_new _ _⟩
  | true =>
    cases h2 : inB t 0 1000000 with
    | false =>
      have HF : Hid (bOf (AnsOK k t h e0) = false) := bOf_false fun h => by have := (h.2.1); rw [h2] at this; cases this
      go_enter Tryz.func145, Tryz.ntmps145
      go_wp2_with (go_at_call 82; refine (within_any _ _ _ _).mono ?_; rintro e w1 ⟨rfl, rfl⟩; first | rw [h1] | rw [h2])
      go_ret
      exact ⟨ret_bool HF.out.symm, bel_new _ _⟩
    | true =>
      cases h3 : inB h (-1) 255 with
      | false =>
        have HF : Hid (bOf (AnsOK k t h e0) = false) := bOf_false fun h => by have := (h.2.2.1); rw [h3] at this; cases this
        go_enter Tryz.func145, Tryz.ntmps145
        go_wp2_with (go_at_call 82; refine (within_any _ _ _ _).mono ?_; rintro e w1 ⟨rfl, rfl⟩; first | rw [h1] | rw [h2] | rw [h3])
        go_ret
        exact ⟨ret_bool HF.out.symm, bel_new _ _⟩
      | true =>
        cases h4 : inB e0 0 2000000000 with
        | false =>
          have HF : Hid (bOf (AnsOK k t h e0) = false) := bOf_false fun h => by have := (h.2.2.2); rw [h4] at this; cases this
          go_enter Tryz.func145, Tryz.ntmps145
          go_wp2_with (go_at_call 82; refine (within_any _ _ _ _).mono ?_; rintro e w1 ⟨rfl, rfl⟩; first | rw [h1] | rw [h2] | rw [h3] | rw [h4])
          go_ret
          exact ⟨ret_bool HF.out.symm, bel_new _ _⟩
        | true =>
          have HF : Hid (bOf (AnsOK k t h e0) = true) := bOf_true ⟨h1, h2, h3, h4⟩
          go_enter Tryz.func145, Tryz.ntmps145
          go_wp2_with (go_at_call 82; refine (within_any _ _ _ _).mono ?_; rintro e w1 ⟨rfl, rfl⟩; first | rw [h1] | rw [h2] | rw [h3] | rw [h4])
          go_ret
          exact ⟨ret_bool HF.out.symm, bel_new _ _⟩
set_option maxRecDepth 100000 in
set_option maxHeartbeats 1600000 in
theorem l05Answer_any (k t h e0 : Int) (w : World) :
    Calls Tryz.prog 68 #[.agg #[.int .i64 k, .int .i64 t, .int .i64 h, .int .i64 e0]] w fun e w' => e = .returned (.bool (bOf (AnsOK k t h e0))) ∧ Below w.heap.size w w' := by
  cases h1 : inB k 1 8 with
  | false =>
    have HF : Hid (bOf (AnsOK k t h e0) = false) := bOf_false fun h => by have := (h.1); rw [h1] at this; cases this
    go_enter Tryz.func68, Tryz.ntmps68
    go_wp2_with (go_at_call 39; refine (l01In_any _ _ _ _).mono ?_; rintro e w1 ⟨rfl, rfl⟩; rw [h1])
    go_ret
    exact ⟨ret_bool HF.out.symm, bel_new _ _⟩
  | true =>
    cases h2 : inB t 0 1000000 with
    | false =>
      have HF : Hid (bOf (AnsOK k t h e0) = false) := bOf_false fun h => by have := (h.2.1); rw [h2] at this; cases this
      go_enter Tryz.func68, Tryz.ntmps68
      go_wp2_with (go_at_call 39; refine (l01In_any _ _ _ _).mono ?_; rintro e w1 ⟨rfl, rfl⟩; first | rw [h1] | rw [h2])
      go_ret
      exact ⟨ret_bool HF.out.symm, bel_new _ _⟩
    | true =>
      cases h3 : inB h (-1) 255 with
      | false =>
        have HF : Hid (bOf (AnsOK k t h e0) = false) := bOf_false fun h => by have := (h.2.2.1); rw [h3] at this; cases this
        go_enter Tryz.func68, Tryz.ntmps68
        go_wp2_with (go_at_call 39; refine (l01In_any _ _ _ _).mono ?_; rintro e w1 ⟨rfl, rfl⟩; first | rw [h1] | rw [h2] | rw [h3])
        go_ret
        exact ⟨ret_bool HF.out.symm, bel_new _ _⟩
      | true =>
        cases h4 : inB e0 0 2000000000 with
        | false =>
          have HF : Hid (bOf (AnsOK k t h e0) = false) := bOf_false fun h => by have := (h.2.2.2); rw [h4] at this; cases this
          go_enter Tryz.func68, Tryz.ntmps68
          go_wp2_with (go_at_call 39; refine (l01In_any _ _ _ _).mono ?_; rintro e w1 ⟨rfl, rfl⟩; first | rw [h1] | rw [h2] | rw [h3] | rw [h4])
          go_ret
          exact ⟨ret_bool HF.out.symm, bel_new _ _⟩
        | true =>
          have HF : Hid (bOf (AnsOK k t h e0) = true) := bOf_true ⟨h1, h2, h3, h4⟩
          go_enter Tryz.func68, Tryz.ntmps68
          go_wp2_with (go_at_call 39; refine (l01In_any _ _ _ _).mono ?_; rintro e w1 ⟨rfl, rfl⟩; first | rw [h1] | rw [h2] | rw [h3] | rw [h4])
          go_ret
          exact ⟨ret_bool HF.out.symm, bel_new _ _⟩
theorem pc_ge {xs : List Sn} : ∀ {k : Nat}, (∀ (j : Nat) (y : Sn), j < k → xs[j]? = some y → SOne (pc xs j) y) → k ≤ xs.length → 0 ≤ pc xs k
  | 0, _, _ => by unfold pc; simp
  | k + 1, h, hk => by
    obtain ⟨x, hx⟩ := Tw.get_at (xs := xs) (k := k) (by omega)
    have ih := pc_ge (k := k) (fun j y hj hy => h j y (by omega) hy) (by omega)
    have := (inB_le (h k x (by omega) hx).1).1
    rw [pc_succ hx]
    omega
def SnOK (x : Sn) : Prop := inB x.c 0 255 = true ∧ inB x.s 1 65535 = true ∧ AnsOK x.k x.t x.h x.e
theorem sone_iff {p : Int} {x : Sn} (h : 0 ≤ p) : SOne p x ↔ (¬ x.c < p ∧ SnOK x) := by
  unfold SOne SnOK
  have e : inB x.c p 255 = true ↔ (¬ x.c < p ∧ inB x.c 0 255 = true) := by
    unfold inB
    simp
    omega
  rw [e, and_assoc]
set_option maxRecDepth 100000 in
set_option maxHeartbeats 1600000 in
theorem seenOK_any (x : Sn) (w : World) :
    Calls Tryz.prog 120 #[snV x] w fun e w' => e = .returned (.bool (bOf (SnOK x))) ∧ Below w.heap.size w w' := by
  unfold snV
  cases h1 : inB x.c 0 255 with
  | false =>
    have HF : Hid (bOf (SnOK x) = false) := bOf_false fun h => by have := h.1; rw [h1] at this; cases this
    go_enter Tryz.func120, Tryz.ntmps120
    go_wp2_with (go_at_call 82; refine (within_any _ _ _ _).mono ?_; rintro e w1 ⟨rfl, rfl⟩; rw [h1])
    go_ret
    exact ⟨ret_bool HF.out.symm, bel_new _ _⟩
  | true =>
    cases h2 : inB x.s 1 65535 with
    | false =>
      have HF : Hid (bOf (SnOK x) = false) := bOf_false fun h => by have := h.2.1; rw [h2] at this; cases this
      go_enter Tryz.func120, Tryz.ntmps120
      go_wp2_with (go_at_call 82; refine (within_any _ _ _ _).mono ?_; rintro e w1 ⟨rfl, rfl⟩; first | rw [h1] | rw [h2])
      go_ret
      exact ⟨ret_bool HF.out.symm, bel_new _ _⟩
    | true =>
      have HF : Hid (bOf (SnOK x) = bOf (AnsOK x.k x.t x.h x.e)) := by
        show _ = _
        by_cases h : AnsOK x.k x.t x.h x.e
        · rw [bOf_true h, bOf_true (show SnOK x from ⟨h1, h2, h⟩)]
        · rw [bOf_false h, bOf_false (fun g : SnOK x => h g.2.2)]
      go_enter Tryz.func120, Tryz.ntmps120
      go_wp2_with (first | (go_at_call 82; refine (within_any _ _ _ _).mono ?_; rintro e w1 ⟨rfl, rfl⟩; first | rw [h1] | rw [h2]) | (go_at_call 145; refine (answerOK_any _ _ _ _ _).mono ?_; rintro e w2 ⟨rfl, b2⟩))
      go_ret
      exact ⟨ret_bool HF.out.symm, (bel_new _ _).trans (b2.mono (bel_new _ _).size)⟩
set_option maxRecDepth 100000 in
set_option maxHeartbeats 1600000 in
theorem seensOK_any (v : Value) (xs : List Sn) (w : World) (h : RowS w v xs) (hl : xs.length ≤ 1048576) :
    Calls Tryz.prog 97 #[v] w fun e w' => e = .returned (.bool (bOf (SsOK xs))) ∧ Below w.heap.size w w' := by
  have HR : Hid (RowS w v xs) := h
  obtain ⟨a, cap, rfl⟩ := RowG.slice h
  clear h
  go_enter Tryz.func97, Tryz.ntmps97
  go_wp2_with fail
  go_loopw [3, 8] (fun p i wr => ∃ k : Nat, k ≤ xs.length ∧ i = .int .i64 k ∧ p = .int .i64 (pc xs k) ∧ Hid ((∀ (j : Nat) (y : Sn), j < k → xs[j]? = some y → SOne (pc xs j) y) ∧ Below w.heap.size w wr)) (fun _ i _ => xs.length - (intOf i).toNat)
  case atStart => exact ⟨0, by omega, rfl, rfl, ⟨fun j y hj => by omega, Below.refl _ _⟩⟩
  case round =>
    obtain ⟨k, hk, rfl, rfl, HK⟩ := hrel
    by_cases hlt : k < xs.length
    · obtain ⟨x, hx⟩ := Tw.get_at hlt
      obtain ⟨b, off, rfl, hbl, c0, c1, c2, c3, c4, c5⟩ := RowG.at (HR.out.below HK.out.2) rfl hx
      have HN : Hid (SOne (pc xs k) x ↔ (¬ x.c < pc xs k ∧ SnOK x)) := sone_iff (pc_ge HK.out.1 (by omega))
      have HNO : Hid (¬ SOne (pc xs k) x → bOf (SsOK xs) = false) := fun h => bOf_false fun hh => h (hh k x hx)
      have HYS : Hid (SOne (pc xs k) x → ∀ (j : Nat) (y : Sn), j < k + 1 → xs[j]? = some y → SOne (pc xs j) y) := fun h => upto (P := fun j y => SOne (pc xs j) y) HK.out.1 hx h
      have HP : Hid (pc xs (k + 1) = x.c + 1) := pc_succ hx
      have HW : Hid (∀ o, Below w.heap.size w (wr.alloc o)) := fun o => HK.out.2.trans ((bel_new wr o).mono HK.out.2.size)
      have HSN : Hid (∀ o, Calls Tryz.prog 120 #[.agg #[.int .i64 x.c, .int .i64 x.s, .int .i64 x.k, .int .i64 x.t, .int .i64 x.h, .int .i64 x.e]] (wr.alloc o) fun e w' => e = .returned (.bool (bOf (SnOK x))) ∧ (∀ i, w'.cell? ⟨wr.heap.size, i, none⟩ = (wr.alloc o).cell? ⟨wr.heap.size, i, none⟩) ∧ Below w.heap.size w w') := fun o =>
        (seenOK_any x _).mono fun e w' ⟨he, hb⟩ => ⟨he, fun i => hb.cell (p := ⟨wr.heap.size, i, none⟩) (by rw [size_new]; exact Nat.lt_succ_self _), (HW.out o).trans (hb.mono (HW.out o).size)⟩
      clear hx
      generalize pc xs k = p at HN HNO HYS ⊢
      by_cases h1 : x.c < p
      · have HF : Hid (bOf (SsOK xs) = false) := HNO.out fun h => (HN.out.1 h).1 h1
        go_wp2_with fail
        go_ret
        exact ⟨ret_bool HF.out.symm, HW.out _⟩
      · cases h3 : bOf (SnOK x) with
        | false =>
          have HF : Hid (bOf (SsOK xs) = false) := HNO.out fun h => by rw [bOf_true (HN.out.1 h).2] at h3; cases h3
          rw [h3] at HSN
          clear h3
          go_wp2_with (go_at_call 120; refine (HSN.out _).mono ?_; rintro e w2 ⟨rfl, _, g2⟩)
          go_ret
          exact ⟨ret_bool HF.out.symm, g2⟩
        | true =>
          have hs : SnOK x := Classical.byContradiction fun hn => by rw [bOf_false hn] at h3; cases h3
          have HT : Hid (SOne p x) := HN.out.2 ⟨h1, hs⟩
          have hb1 : 0 ≤ x.c ∧ x.c ≤ 255 := inB_le hs.1
          rw [h3] at HSN
          clear h3 hs
          go_wp2_with (go_at_call 120; refine (HSN.out _).mono ?_; rintro e w2 ⟨rfl, q2, g2⟩; have q20 := q2 0)
          exact ⟨⟨k + 1, by omega, by go_num, by rw [HP.out], ⟨HYS.out HT.out, g2⟩⟩, by simp [intOf]; omega⟩
    · obtain rfl : k = xs.length := by omega
      have HT : Hid (bOf (SsOK xs) = true) := bOf_true fun j y hy => HK.out.1 j y (lt_at hy) hy
      go_wp2_with fail
      go_ret
      exact ⟨ret_bool HT.out.symm, HK.out.2⟩
set_option maxRecDepth 100000 in
set_option maxHeartbeats 1600000 in
theorem locksOK_any (v : Value) (xs : List Lk) (nx : Int) (w : World) (h : RowL w v xs) (hl : xs.length ≤ 1048576) (hw : ∀ x ∈ xs, x.n.size ≤ 1048576 ∧ x.ws.length ≤ 1048576) (hn1 : 1 ≤ nx) (hn2 : nx ≤ 1000000) :
    Calls Tryz.prog 96 #[v, .int .i64 nx] w fun e w' => e = .returned (.bool (bOf (LsOK nx xs))) ∧ Below w.heap.size w w' := by
  have HR : Hid (RowL w v xs ∧ ∀ x ∈ xs, x.n.size ≤ 1048576 ∧ x.ws.length ≤ 1048576) := ⟨h, hw⟩
  obtain ⟨a, cap, rfl⟩ := RowG.slice h
  clear h hw
  go_enter Tryz.func96, Tryz.ntmps96
  go_wp2_with fail
  go_loopw [5, 10] (fun p i wr => ∃ k : Nat, k ≤ xs.length ∧ i = .int .i64 k ∧ p = .string (pn xs k) ∧ Hid ((∀ (j : Nat) (y : Lk), j < k → xs[j]? = some y → LOne nx (pn xs j) y) ∧ Below w.heap.size w wr)) (fun _ i _ => xs.length - (intOf i).toNat)
  case atStart => exact ⟨0, by omega, rfl, rfl, ⟨fun j y hj => by omega, Below.refl _ _⟩⟩
  case round =>
    obtain ⟨k, hk, rfl, rfl, HK⟩ := hrel
    by_cases hlt : k < xs.length
    · obtain ⟨x, hx⟩ := Tw.get_at hlt
      obtain ⟨b, off, rfl, hbl, u, c0, c1, c2, c3, c4, c5⟩ := RowG.at (HR.out.1.below HK.out.2) rfl hx
      obtain ⟨ua, uc, rfl⟩ := RowG.slice c5
      have HN : Hid (LOne nx (pn xs k) x ↔ ((Op.bytesLess x.n.toList (pn xs k).toList || x.n.toList == (pn xs k).toList) = false ∧ opB x.n = true ∧ inB x.t 0 (nx - 1) = true ∧ HdOK x)) := Iff.rfl
      have HNO : Hid (¬ LOne nx (pn xs k) x → bOf (LsOK nx xs) = false) := fun h => bOf_false fun hh => h (hh k x hx)
      have HYS : Hid (LOne nx (pn xs k) x → ∀ (j : Nat) (y : Lk), j < k + 1 → xs[j]? = some y → LOne nx (pn xs j) y) := fun h => upto (P := fun j y => LOne nx (pn xs j) y) HK.out.1 hx h
      have HP : Hid (pn xs (k + 1) = x.n) := pn_succ hx
      have HW : Hid (∀ o, Below w.heap.size w (wr.alloc o)) := fun o => HK.out.2.trans ((bel_new wr o).mono HK.out.2.size)
      -- the box and what it holds, in every later world
      have HBX : Hid (∀ W, Below (wr.alloc (.cells #[.string x.n, .int .i64 x.t, .int .i64 x.h, .int .i64 x.e, .slice ua x.ws.length uc] 95)).heap.size (wr.alloc (.cells #[.string x.n, .int .i64 x.t, .int .i64 x.h, .int .i64 x.e, .slice ua x.ws.length uc] 95)) W → W.cell? ⟨wr.heap.size, 0, none⟩ = some (.string x.n) ∧ W.cell? ⟨wr.heap.size, 1, none⟩ = some (.int .i64 x.t) ∧ W.cell? ⟨wr.heap.size, 2, none⟩ = some (.int .i64 x.h) ∧ W.cell? ⟨wr.heap.size, 3, none⟩ = some (.int .i64 x.e) ∧ W.cell? ⟨wr.heap.size, 4, none⟩ = some (.slice ua x.ws.length uc) ∧ RowW W (.slice ua x.ws.length uc) x.ws ∧ Below w.heap.size w W) := fun W hW => by
        have h1 := (hW.block wr.heap.size (by simp)).trans (heap_alloc_new wr _)
        exact ⟨(blk_cell h1 0 rfl).1, (blk_cell h1 1 rfl).1, (blk_cell h1 2 rfl).1, (blk_cell h1 3 rfl).1, (blk_cell h1 4 rfl).1, (c5.below (bel_new _ _)).below hW, (HW.out _).trans (hW.mono (HW.out _).size)⟩
      have HZ : Hid (x.n.size ≤ maxLen ∧ x.ws.length ≤ 1048576) := by have := HR.out.2 x (mem_at hx); exact ⟨by unfold maxLen; omega, this.2⟩
      clear hx c5
      generalize pn xs k = p at HN HNO HYS ⊢
      go_upto_region 5 with fail
      clear c0 c1 c2 c3 c4
      generalize wr.alloc (.cells #[.string x.n, .int .i64 x.t, .int .i64 x.h, .int .i64 x.e, .slice ua x.ws.length uc] 95) = wb at HBX ⊢
      obtain ⟨b0, b1, b2, b3, b4, _, g0⟩ := HBX.out wb (Below.refl _ _)
      have HG0 : Hid (Below w.heap.size w wb) := g0
      clear g0
      cases h1 : (Op.bytesLess x.n.toList p.toList || x.n.toList == p.toList) with
      | true =>
        have HF : Hid (bOf (LsOK nx xs) = false) := HNO.out fun h => by have := (HN.out.1 h).1; rw [h1] at this; cases this
        go_wp2_with fail
        go_ret
        exact ⟨ret_bool HF.out.symm, HG0.out⟩
      | false =>
        have h1a : Op.bytesLess x.n.toList p.toList = false := by cases hh : Op.bytesLess x.n.toList p.toList; rfl; rw [hh] at h1; cases h1
        have h1b : (x.n.toList == p.toList) = false := by cases hh : (x.n.toList == p.toList); rfl; rw [hh, Bool.or_true] at h1; cases h1
        -- the name's test adds to memory
        have HNM : Hid (Calls Tryz.prog 84 #[.string x.n] wb fun e w' => e = .returned (.bool (opB x.n)) ∧ w'.cell? ⟨wr.heap.size, 0, none⟩ = some (.string x.n) ∧ w'.cell? ⟨wr.heap.size, 1, none⟩ = some (.int .i64 x.t) ∧ w'.cell? ⟨wr.heap.size, 2, none⟩ = some (.int .i64 x.h) ∧ w'.cell? ⟨wr.heap.size, 3, none⟩ = some (.int .i64 x.e) ∧ w'.cell? ⟨wr.heap.size, 4, none⟩ = some (.slice ua x.ws.length uc) ∧ Hid (Below wb.heap.size wb w') ∧ Hid (Below w.heap.size w w')) := (opNameOK_any x.n wb HZ.out.1).mono fun e w' ⟨he, hb⟩ => by
          obtain ⟨q0, q1, q2, q3, q4, _, q6⟩ := HBX.out w' hb
          exact ⟨he, q0, q1, q2, q3, q4, hb, q6⟩
        have HHD : Hid (∀ w1, Below wb.heap.size wb w1 → Calls Tryz.prog 119 #[.agg #[.string x.n, .int .i64 x.t, .int .i64 x.h, .int .i64 x.e, .slice ua x.ws.length uc]] w1 fun e w' => e = .returned (.bool (bOf (HdOK x))) ∧ w'.cell? ⟨wr.heap.size, 0, none⟩ = some (.string x.n) ∧ Hid (Below w.heap.size w w')) := fun w1 hb1 => (holdOK_any x _ w1 (HBX.out w1 hb1).2.2.2.2.2.1 HZ.out.2).mono fun e w' ⟨he, hb⟩ => by
          obtain ⟨q0, _, _, _, _, _, q6⟩ := HBX.out w' (hb1.trans (hb.mono hb1.size))
          exact ⟨he, q0, q6⟩
        cases h2 : opB x.n with
        | false =>
          have HF : Hid (bOf (LsOK nx xs) = false) := HNO.out fun h => by have := (HN.out.1 h).2.1; rw [h2] at this; cases this
          rw [h2] at HNM
          go_wp2_with (go_at_call 84; refine HNM.out.mono ?_; rintro e w1 ⟨rfl, r0, r1, r2, r3, r4, R5, R6⟩)
          go_ret
          exact ⟨ret_bool HF.out.symm, R6.out⟩
        | true =>
          rw [h2] at HNM
          cases h3 : inB x.t 0 (nx - 1) with
          | false =>
            have HF : Hid (bOf (LsOK nx xs) = false) := HNO.out fun h => by have := (HN.out.1 h).2.2.1; rw [h3] at this; cases this
            go_wp2_with (first | (go_at_call 84; refine HNM.out.mono ?_; rintro e w1 ⟨rfl, r0, r1, r2, r3, r4, R5, R6⟩; clear b0 b1 b2 b3 b4) | (go_at_call 82; refine (within_any _ _ _ _).mono ?_; rintro e w2 ⟨rfl, rfl⟩; rw [h3]))
            go_ret
            exact ⟨ret_bool HF.out.symm, R6.out⟩
          | true =>
            cases h4 : bOf (HdOK x) with
            | false =>
              have HF : Hid (bOf (LsOK nx xs) = false) := HNO.out fun h => by rw [bOf_true (HN.out.1 h).2.2.2] at h4; cases h4
              rw [h4] at HHD
              clear h4
              go_wp2_with (first | (go_at_call 84; refine HNM.out.mono ?_; rintro e w1 ⟨rfl, r0, r1, r2, r3, r4, R5, R6⟩; clear b0 b1 b2 b3 b4) | (go_at_call 82; refine (within_any _ _ _ _).mono ?_; rintro e w2 ⟨rfl, rfl⟩; rw [h3]) | (go_at_call 119; refine (HHD.out _ R5.out).mono ?_; rintro e w3 ⟨rfl, s0, R7⟩))
              go_ret
              exact ⟨ret_bool HF.out.symm, R7.out⟩
            | true =>
              have HT : Hid (LOne nx p x) := HN.out.2 ⟨h1, h2, h3, Classical.byContradiction fun hn => by rw [bOf_false hn] at h4; cases h4⟩
              rw [h4] at HHD
              clear h4 h1
              go_wp2_with (first | (go_at_call 84; refine HNM.out.mono ?_; rintro e w1 ⟨rfl, r0, r1, r2, r3, r4, R5, R6⟩; clear b0 b1 b2 b3 b4) | (go_at_call 82; refine (within_any _ _ _ _).mono ?_; rintro e w2 ⟨rfl, rfl⟩; rw [h3]) | (go_at_call 119; refine (HHD.out _ R5.out).mono ?_; rintro e w3 ⟨rfl, s0, R7⟩; clear r0 r1 r2 r3 r4))
              exact ⟨⟨k + 1, by omega, by go_num, by rw [HP.out], ⟨HYS.out HT.out, R7.out⟩⟩, by simp [intOf]; omega⟩
    · obtain rfl : k = xs.length := by omega
      have HT : Hid (bOf (LsOK nx xs) = true) := bOf_true fun j y hy => HK.out.1 j y (lt_at hy) hy
      go_wp2_with fail
      go_ret
      exact ⟨ret_bool HT.out.symm, HK.out.2⟩
end Go.Proofs.YtlgfeohoebmbcaaGreat.Tp
