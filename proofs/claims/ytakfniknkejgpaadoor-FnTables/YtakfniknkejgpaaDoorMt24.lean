/- Texts put together: Fc, Ed, Tm. -/
import Derived.Test.YtakfniknkejgpaaDoorMt23
import Derived.Test.YtakfniknkejgpaaDoorMt12
import Derived.Test.YtakfniknkejgpaaDoorRows
import Derived.WalkKit
import Derived.ProofKit
import Derived.WalkSpells
import Derived.Below
import Derived.Laws.NewBlocks
/- What a request does to a table: a right table stays right. -/
namespace Go.Proofs.YtakfniknkejgpaaDoor.Da
open Go.RowKit Go.Proofs.YtakfniknkejgpaaDoor.Tb Go.Proofs.YtakfniknkejgpaaDoor.Tw Go.Proofs.YtakfniknkejgpaaDoor.Tp Go.Proofs.YtakfniknkejgpaaDoor.Rq

structure An where
 k : Int
 t : Int
 h : Int
 e : Int
def tell (k : Int) (x : Lk) : An := ⟨k, x.t, x.h, x.e⟩
def bare (k : Int) : An := ⟨k, 0, -1, 0⟩
def putAt {α : Type} (xs : List α) (k : Nat) (x : α) : List α := xs.take k ++ x :: xs.drop k
theorem putAt_len {α : Type} {xs : List α} {k : Nat} {x : α} (hk : k ≤ xs.length) : (putAt xs k x).length = xs.length + 1 := by
 unfold putAt
 simp
 omega
theorem putAt_at {α : Type} {xs : List α} {k : Nat} {x : α} (hk : k ≤ xs.length) (i : Nat) : (putAt xs k x)[i]? = if i < k then xs[i]? else if i = k then some x else xs[i - 1]? := by
 unfold putAt
 by_cases h1 : i < k
 ·rw [if_pos h1, List.getElem?_append_left (by rw [List.length_take]; omega), List.getElem?_take, if_pos h1]
 ·rw [if_neg h1, List.getElem?_append_right (by rw [List.length_take]; omega), List.length_take, Nat.min_eq_left hk]
  by_cases h2 : i = k
  ·subst h2; simp
  ·rw [if_neg h2]
   obtain ⟨m, rfl⟩ : ∃ m, i = k + m + 1 := ⟨i - k - 1, by omega⟩
   rw [show k + m + 1 - k = m + 1 by omega, List.getElem?_cons_succ, List.getElem?_drop]
   congr 1
def plP {α : Type} (p : α → Bool) : List α → Nat
 | [] => 0
 | x :: r => if p x = true then plP p r + 1 else 0
theorem plP_le {α : Type} {p : α → Bool} : ∀ xs : List α, plP p xs ≤ xs.length
 | [] => by simp [plP]
 | x :: r => by
   have := plP_le (p := p) r
   unfold plP
   split <;> simp <;> omega
theorem plP_before {α : Type} {p : α → Bool} : ∀ (xs : List α) (i : Nat) (x : α), i < plP p xs → xs[i]? = some x → p x = true
 | [], i, x, h, _ => by simp [plP] at h
 | y :: r, i, x, h, hx => by
   unfold plP at h
   by_cases e : p y = true
   ·rw [if_pos e] at h
    cases i with
    | zero => simp at hx; subst hx; exact e
    | succ i => exact plP_before r i x (by omega) (by simpa using hx)
   ·rw [if_neg e] at h; omega
theorem plP_here {α : Type} {p : α → Bool} : ∀ (xs : List α) (x : α), xs[plP p xs]? = some x → p x = false
 | [], x, h => by simp at h
 | y :: r, x, h => by
   unfold plP at h
   by_cases e : p y = true
   ·rw [if_pos e, List.getElem?_cons_succ] at h
    exact plP_here r x h
   ·rw [if_neg e] at h
    simp at h
    subst h
    simpa using e
def fiP {α : Type} (p : α → Bool) : List α → Option Nat
 | [] => none
 | x :: r => if p x = true then some 0 else (fiP p r).map (· + 1)
theorem fiP_some {α : Type} {p : α → Bool} : ∀ (xs : List α) (k : Nat), fiP p xs = some k → ∃ x, xs[k]? = some x ∧ p x = true
 | [], k, h => by simp [fiP] at h
 | y :: r, k, h => by
   unfold fiP at h
   by_cases e : p y = true
   ·rw [if_pos e] at h; cases h; exact ⟨y, rfl, e⟩
   ·rw [if_neg e] at h
    obtain ⟨m, hm, rfl⟩ := Option.map_eq_some_iff.1 h
    obtain ⟨x, h1, h2⟩ := fiP_some r m hm
    exact ⟨x, by simpa using h1, h2⟩
theorem fiP_none {α : Type} {p : α → Bool} : ∀ (xs : List α), fiP p xs = none → ∀ (k : Nat) (x : α), xs[k]? = some x → p x = false
 | [], _, k, x, hx => by simp at hx
 | y :: r, h, k, x, hx => by
   unfold fiP at h
   by_cases e : p y = true
   ·rw [if_pos e] at h; cases h
   ·rw [if_neg e] at h
    have h1 : fiP p r = none := by simpa using h
    cases k with
    | zero => simp at hx; subst hx; simpa using e
    | succ k => exact fiP_none r h1 k x (by simpa using hx)
def less (a b : ByteArray) : Bool := Op.bytesLess a.toList b.toList
theorem after_iff (a b : ByteArray) : (Op.bytesLess b.toList a.toList || b.toList == a.toList) = false ↔ less a b = true := by
 unfold less
 rw [Tq.less_total a.toList b.toList]
 cases (Op.bytesLess b.toList a.toList || b.toList == a.toList) <;> simp
theorem toList_inj {a b : ByteArray} (h : a.toList = b.toList) : a = b := by
 rw [Lib.toList_data, Lib.toList_data] at h
 cases a
 cases b
 have h2 := Array.toList_inj.1 h
 simp only at h2
 rw [h2]
theorem less_or {a b : ByteArray} (h1 : less a b = false) (h2 : a ≠ b) : less b a = true := by
 unfold less at h1 ⊢
 rw [Tq.less_total b.toList a.toList, h1, Bool.false_or]
 have : (a.toList == b.toList) = false := by rw [beq_eq_false_iff_ne]; exact fun e => h2 (toList_inj e)
 rw [this]
 rfl
def plc (ls : List Lk) (nm : ByteArray) : Nat := plP (fun x => less x.n nm) ls
def idx (ls : List Lk) (nm : ByteArray) : Option Nat := fiP (fun x => x.n.toList == nm.toList) ls
theorem pn_put {ls : List Lk} {k : Nat} {x : Lk} (hk : k ≤ ls.length) (i : Nat) : pn (putAt ls k x) i = if i ≤ k then pn ls i else if i = k + 1 then x.n else pn ls (i - 1) := by
 unfold pn
 by_cases h0 : i = 0
 ·subst h0; simp
 ·rw [if_neg h0, List.getD_eq_getElem?_getD, putAt_at hk]
  by_cases h1 : i ≤ k
  ·rw [if_pos h1, if_pos (by omega), if_neg h0, List.getD_eq_getElem?_getD]
  ·rw [if_neg h1, if_neg (by omega)]
   by_cases h2 : i = k + 1
   ·rw [if_pos h2, if_pos (by omega)]; rfl
   ·rw [if_neg h2, if_neg (by omega), if_neg (by omega), List.getD_eq_getElem?_getD]
theorem put_ok {nx : Int} {ls : List Lk} {x : Lk} (h : LsOK nx ls) (hn : idx ls x.n = none) (hx : opB x.n = true) (he : less ⟨#[]⟩ x.n = true) (ht : inB x.t 0 (nx - 1) = true) (hh : HdOK x) : LsOK nx (putAt ls (plc ls x.n) x) := by
 have hk := plP_le (p := fun y : Lk => less y.n x.n) ls
 unfold plc
 intro i l hl
 rw [putAt_at hk] at hl
 rw [pn_put hk]
 generalize hK : plP (fun y : Lk => less y.n x.n) ls = k at hk hl ⊢
 by_cases h1 : i < k
 ·rw [if_pos h1] at hl
  rw [if_pos (by omega)]
  exact h i l hl
 ·rw [if_neg h1] at hl
  by_cases h2 : i = k
  ·rw [if_pos h2] at hl
   obtain rfl : x = l := by simpa using hl
   rw [if_pos (by omega)]
   refine ⟨(after_iff _ _).2 ?_, hx, ht, hh⟩
   subst h2
   unfold pn
   by_cases h0 : i = 0
   ·rw [if_pos h0]; exact he
   ·rw [if_neg h0, List.getD_eq_getElem?_getD]
    obtain ⟨y, hy⟩ : ∃ y, ls[i - 1]? = some y := ⟨_, List.getElem?_eq_getElem (show i - 1 < ls.length by omega)⟩
    rw [hy]
    exact plP_before (p := fun y : Lk => less y.n x.n) ls (i - 1) y (by omega) hy
  ·rw [if_neg h2] at hl
   rw [if_neg (by omega)]
   obtain ⟨a1, a2, a3, a4⟩ := h (i - 1) l hl
   by_cases h3 : i = k + 1
   ·rw [if_pos h3]
    refine ⟨(after_iff _ _).2 (less_or ?_ ?_), a2, a3, a4⟩
    ·have : i - 1 = k := by omega
     rw [this, ← hK] at hl
     exact plP_here (p := fun y : Lk => less y.n x.n) ls l hl
    ·intro e
     have := fiP_none (p := fun y : Lk => y.n.toList == x.n.toList) ls hn (i - 1) l hl
     rw [e] at this
     simp at this
   ·rw [if_neg h3]
    exact ⟨a1, a2, a3, a4⟩
theorem set_ok {nx nx' : Int} {ls : List Lk} {k : Nat} {x y : Lk} (h : LsOK nx ls) (hle : nx ≤ nx') (hx : ls[k]? = some x) (hn : y.n = x.n) (ht : inB y.t 0 (nx' - 1) = true) (hh : HdOK y) : LsOK nx' (ls.set k y) := by
 have hp : ∀ i, pn (ls.set k y) i = pn ls i := fun i => by
  unfold pn
  by_cases h0 : i = 0
  ·rw [if_pos h0, if_pos h0]
  ·rw [if_neg h0, if_neg h0, List.getD_eq_getElem?_getD, List.getD_eq_getElem?_getD, List.getElem?_set]
   by_cases e : k = i - 1
   ·rw [if_pos e]
    subst e
    rw [if_pos (List.getElem?_eq_some_iff.1 hx).1, hx]
    exact hn
   ·rw [if_neg e]
 intro i l hl
 rw [hp]
 rw [List.getElem?_set] at hl
 by_cases e : k = i
 ·subst e
  rw [if_pos rfl, if_pos (List.getElem?_eq_some_iff.1 hx).1] at hl
  obtain rfl : y = l := by simpa using hl
  obtain ⟨a1, a2, _, _⟩ := h k x hx
  exact ⟨by rw [hn]; exact a1, by rw [hn]; exact a2, ht, hh⟩
 ·rw [if_neg e] at hl
  obtain ⟨a1, a2, a3, a4⟩ := h i l hl
  have b := inB_le a3
  exact ⟨a1, a2, inB_of b.1 (by omega), a4⟩
theorem ls_up {nx nx' : Int} {ls : List Lk} (h : LsOK nx ls) (hle : nx ≤ nx') : LsOK nx' ls := fun i l hl => by
 obtain ⟨a1, a2, a3, a4⟩ := h i l hl
 have b := inB_le a3
 exact ⟨a1, a2, inB_of b.1 (by omega), a4⟩
end Go.Proofs.YtakfniknkejgpaaDoor.Da

/- l05Waits and l05Tell of the specification. -/
namespace Go.Proofs.YtakfniknkejgpaaDoor.Ea
open Go.RowKit Go.Proofs.YtakfniknkejgpaaDoor.Sl Go.Proofs.YtakfniknkejgpaaDoor.By Go.Proofs.YtakfniknkejgpaaDoor.Ap Go.Proofs.YtakfniknkejgpaaDoor.Tb Go.Proofs.YtakfniknkejgpaaDoor.Tw Go.Proofs.YtakfniknkejgpaaDoor.Mw Go.Proofs.YtakfniknkejgpaaDoor.Wa Go.Proofs.YtakfniknkejgpaaDoor.Tp Go.Proofs.YtakfniknkejgpaaDoor.Da

open Go.Proofs.YtakfniknkejgpaaDoor.Tx (blk_cell blk_set blk_far blk_new bel_new)

def wIx (ws : List Wt) (c : Int) : Int := if wtB ws c = true then ((ws.findIdx fun w => w.c == c : Nat) : Int) else -1
theorem wIx_here {ws : List Wt} {c : Int} {k : Nat} {y : Wt} (h : ∀ (j : Nat) (z : Wt), j < k → ws[j]? = some z → ¬ z.c = c) (hy : ws[k]? = some y) (hc : y.c = c) : wIx ws c = k := by
 have hk := (List.getElem?_eq_some_iff.1 hy)
 have h1 : wtB ws c = true := by
  unfold wtB
  rw [List.any_eq_true]
  exact ⟨y, List.mem_of_getElem? hy, by simpa using hc⟩
 have h2 : (ws.findIdx fun w => w.c == c) = k := by
  rw [List.findIdx_eq hk.1]
  refine ⟨by rw [hk.2]; simpa using hc, fun j hj => ?_⟩
  have := h j _ hj (List.getElem?_eq_getElem (Nat.lt_trans hj hk.1))
  simpa using this
 unfold wIx
 rw [if_pos h1, h2]
theorem wIx_none {ws : List Wt} {c : Int} (h : ∀ (j : Nat) (z : Wt), j < ws.length → ws[j]? = some z → ¬ z.c = c) : wIx ws c = -1 := by
 unfold wIx
 rw [if_neg]
 intro h1
 unfold wtB at h1
 rw [List.any_eq_true] at h1
 obtain ⟨y, hy, hc⟩ := h1
 obtain ⟨j, hj, e⟩ := List.mem_iff_getElem.1 hy
 exact h j y hj (by rw [List.getElem?_eq_getElem hj, e]) (by simpa using hc)
theorem ret_int {a b : Int} (h : a = b) : Ending.returned (.int .i64 a) = .returned (.int .i64 b) := by rw [h]
set_option maxRecDepth 100000 in
set_option maxHeartbeats 1600000 in
theorem l05Waits_any (y : Lk) (u : Value) (c : Int) (w : World) (h : RowW w u y.ws) (hl : y.ws.length ≤ 1000) :
 Calls Tryd.prog 117 #[lkV y u, .int .i64 c] w fun e w' => e = .returned (.int .i64 (wIx y.ws c)) ∧ Below w.heap.size w w' := by
 obtain ⟨ua, uc, rfl⟩ := RowG.slice h
 have HX : Hid (∀ W, Below (w.alloc (.cells #[.string y.n, .int .i64 y.t, .int .i64 y.h, .int .i64 y.e, .slice ua y.ws.length uc] 52)).heap.size (w.alloc (.cells #[.string y.n, .int .i64 y.t, .int .i64 y.h, .int .i64 y.e, .slice ua y.ws.length uc] 52)) W → W.cell? ⟨w.heap.size, 4, none⟩ = some (.slice ua y.ws.length uc) ∧ RowW W (.slice ua y.ws.length uc) y.ws ∧ Below w.heap.size w W) := fun W hW => by
  have h1 := (hW.block w.heap.size (by simp)).trans (heap_alloc_new w _)
  have b := (bel_new w (.cells #[.string y.n, .int .i64 y.t, .int .i64 y.h, .int .i64 y.e, .slice ua y.ws.length uc] 52)).trans (hW.mono (by simp))
  exact ⟨(blk_cell h1 4 rfl).1, h.below b, b⟩
 clear h
 unfold lkV
 go_enter Tryd.func117, Tryd.ntmps117
 go_upto_region 1 with fail
 generalize w.alloc (.cells #[.string y.n, .int .i64 y.t, .int .i64 y.h, .int .i64 y.e, .slice ua y.ws.length uc] 52) = wb at HX ⊢
 go_wp2_with fail
 go_loopw [5] (fun i wr => ∃ k : Nat, k ≤ y.ws.length ∧ i = .int .i64 k ∧ Hid ((∀ (j : Nat) (z : Wt), j < k → y.ws[j]? = some z → ¬ z.c = c) ∧ Below wb.heap.size wb wr)) (fun i _ => y.ws.length - (intOf i).toNat)
 case atStart => exact ⟨0, by omega, rfl, ⟨fun j z hj => by omega, Below.refl _ _⟩⟩
 case round =>
  obtain ⟨k, hk, rfl, HK⟩ := hrel
  obtain ⟨x4, hrow, hbw⟩ := HX.out _ HK.out.2
  have HB : Hid (Below w.heap.size w wr) := hbw
  by_cases hlt : k < y.ws.length
  ·obtain ⟨z, hz⟩ := Tw.get_at hlt
   obtain ⟨b, off, rfl, hbl, c0, c1⟩ := RowG.at hrow rfl hz
   have HZ : Hid (y.ws[k]? = some z) := hz
   clear hz hrow hbw
   by_cases hc : z.c = c
   ·have HE : Hid (wIx y.ws c = k) := wIx_here HK.out.1 HZ.out hc
    have hc' : (z.c == c) = true := by simpa using hc
    clear hc
    go_wp2_with fail
    go_ret
    exact ⟨ret_int HE.out.symm, HB.out⟩
   ·have HN : Hid (∀ (j : Nat) (z' : Wt), j < k + 1 → y.ws[j]? = some z' → ¬ z'.c = c) := fun j z' hj hz' => by
     by_cases e : j = k
     ·subst e; rw [HZ.out] at hz'; cases hz'; exact hc
     ·exact HK.out.1 j z' (by omega) hz'
    have hc' : (z.c == c) = false := by simpa using hc
    clear hc
    go_wp2_with fail
    exact ⟨⟨k + 1, by omega, by go_num, ⟨HN.out, HK.out.2⟩⟩, by simp [intOf]; omega⟩
  ·obtain rfl : k = y.ws.length := by omega
   have HE : Hid (wIx y.ws c = -1) := wIx_none HK.out.1
   clear hrow hbw
   go_wp2_with fail
   go_ret
   exact ⟨ret_int HE.out.symm, HB.out⟩
set_option maxRecDepth 100000 in
set_option maxHeartbeats 1600000 in
theorem l05Tell_any (k : Int) (y : Lk) (u : Value) (w : World) :
 Calls Tryd.prog 116 #[.int .i64 k, lkV y u] w fun e w' => e = .returned (.agg #[.int .i64 k, .int .i64 y.t, .int .i64 y.h, .int .i64 y.e]) ∧ Below w.heap.size w w' := by
 unfold lkV
 go_enter Tryd.func116, Tryd.ntmps116
 go_wp2_with fail
 refine bodyPost_ret (v := .agg #[.int .i64 k, .int .i64 y.t, .int .i64 y.h, .int .i64 y.e]) (by simp [results, Tryd.results116, go_sem]) rfl ⟨rfl, ?_⟩
 exact ((Below.refl _ _).alloc (Nat.le_refl _) _).alloc (by simp) _
end Go.Proofs.YtakfniknkejgpaaDoor.Ea

/- FaultsOf and AddTime, of the program and of the specification. -/
namespace Go.Proofs.YtakfniknkejgpaaDoor.Tm
open Go.RowKit

def adT (a b : Int) : Int := min (max a 0 + max b 0) 9223372036854775807
theorem ret_i {a b : Int} (h : a = b) : Ending.returned (.int .i64 a) = .returned (.int .i64 b) := by rw [h]
set_option maxRecDepth 100000 in
set_option maxHeartbeats 400000 in
theorem specAddTime_any (a b : Int) (w : World) (ha : -9223372036854775808 ≤ a ∧ a ≤ 9223372036854775807) (hb : -9223372036854775808 ≤ b ∧ b ≤ 9223372036854775807) :
 Calls Tryd.prog 118 #[.int .i64 a, .int .i64 b] w fun e w' => e = .returned (.int .i64 (adT a b)) ∧ w' = w := by
 go_enter Tryd.func118, Tryd.ntmps118
 go_wp2_with fail
 all_goals (go_ret; exact ⟨ret_i (by unfold adT; omega), rfl⟩)
end Go.Proofs.YtakfniknkejgpaaDoor.Tm
