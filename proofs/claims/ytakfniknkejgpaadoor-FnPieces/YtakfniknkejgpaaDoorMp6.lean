/- Texts put together: Tw4, Tp, Tp2. -/
import Derived.Test.YtakfniknkejgpaaDoorMp5
import Derived.Laws.Cover1
/- Copies of tables; copies that are alike. -/
namespace Go.Proofs.YtakfniknkejgpaaDoor.Tw
open Go.RowKit Go.Proofs.YtakfniknkejgpaaDoor.Sl Go.Proofs.YtakfniknkejgpaaDoor.Ap Go.Proofs.YtakfniknkejgpaaDoor.Tx Go.Proofs.YtakfniknkejgpaaDoor.Tb

theorem two_new (w : World) (o0 o1 : Obj) : Below w.heap.size w ((w.alloc o0).alloc o1) := ((Below.refl _ _).alloc (Nat.le_refl _) _).alloc (by simp) _
theorem two {w w1 : World} {o0 o1 : Obj} (b : Below ((w.alloc o0).alloc o1).heap.size ((w.alloc o0).alloc o1) w1) :
 w1.heap[w.heap.size]? = some o0 ∧ w1.heap[w.heap.size + 1]? = some o1 ∧ Below w.heap.size w w1 := by
 have e1 : (w.alloc o0).heap.size = w.heap.size + 1 := size_new _ _
 have e2 : ((w.alloc o0).alloc o1).heap.size = w.heap.size + 1 + 1 := by rw [size_new, e1]
 have b1 := two_new w o0 o1
 rw [e2] at b
 refine ⟨?_, ?_, b1.trans (b.mono (by omega))⟩
 ·rw [b.block _ (by omega), Below.heap_alloc _ _ _ (by omega)]; exact heap_alloc_new w _
 ·rw [b.block _ (by omega), ← e1]; exact heap_alloc_new _ _
end Go.Proofs.YtakfniknkejgpaaDoor.Tw

/- Tables that are right: the program's parts. -/
namespace Go.Proofs.YtakfniknkejgpaaDoor.Tp
open Go.RowKit Go.Proofs.YtakfniknkejgpaaDoor.Sl Go.Proofs.YtakfniknkejgpaaDoor.Ap Go.Proofs.YtakfniknkejgpaaDoor.Tx Go.Proofs.YtakfniknkejgpaaDoor.Tb Go.Proofs.YtakfniknkejgpaaDoor.Tw Go.Proofs.YtakfniknkejgpaaDoor.Rq

noncomputable def bOf (p : Prop) : Bool := @decide p (Classical.propDecidable p)
theorem bOf_true {p : Prop} (h : p) : bOf p = true := by unfold bOf; simp [h]
theorem bOf_false {p : Prop} (h : ¬ p) : bOf p = false := by unfold bOf; simp [h]
def WOne (h : Int) (ws : List Wt) (k : Nat) (x : Wt) : Prop := inB x.c 0 255 = true ∧ inB x.l 1 1000 = true ∧ x.c ≠ h ∧ ∀ (j : Nat) (y : Wt), j < k → ws[j]? = some y → y.c ≠ x.c
def WsOK (h : Int) (ws : List Wt) : Prop := ∀ k x, ws[k]? = some x → WOne h ws k x
def HdOK (l : Lk) : Prop := (l.h = -1 ∧ l.e = 0 ∧ l.ws.length = 0) ∨ (l.h ≠ -1 ∧ inB l.h 0 255 = true ∧ inB l.e 0 2000000000 = true ∧ l.ws.length ≤ 4 ∧ WsOK l.h l.ws)
def pn (ls : List Lk) (i : Nat) : ByteArray := if i = 0 then ⟨#[]⟩ else (ls.getD (i - 1) default).n
def LOne (nx : Int) (p : ByteArray) (l : Lk) : Prop := (Op.bytesLess l.n.toList p.toList || l.n.toList == p.toList) = false ∧ opB l.n = true ∧ inB l.t 0 (nx - 1) = true ∧ HdOK l
def LsOK (nx : Int) (ls : List Lk) : Prop := ∀ i l, ls[i]? = some l → LOne nx (pn ls i) l
def AnsOK (k t h e : Int) : Prop := inB k 1 8 = true ∧ inB t 0 1000000 = true ∧ inB h (-1) 255 = true ∧ inB e 0 2000000000 = true
def pc (ss : List Sn) (i : Nat) : Int := if i = 0 then 0 else (ss.getD (i - 1) default).c + 1
def SOne (p : Int) (s : Sn) : Prop := inB s.c p 255 = true ∧ inB s.s 1 65535 = true ∧ AnsOK s.k s.t s.h s.e
def SsOK (ss : List Sn) : Prop := ∀ i s, ss[i]? = some s → SOne (pc ss i) s
def TOK (t : Tab) : Prop := inB t.tm 0 1000000000 = true ∧ inB t.nx 1 1000000 = true ∧ t.ls.length ≤ 4 ∧ LsOK t.nx t.ls ∧ t.ss.length ≤ 6 ∧ SsOK t.ss
theorem pn_succ {ls : List Lk} {k : Nat} {x : Lk} (h : ls[k]? = some x) : pn ls (k + 1) = x.n := by
 unfold pn
 rw [if_neg (by omega), Nat.add_sub_cancel, List.getD_eq_getElem?_getD, h]
 rfl
theorem pc_succ {ss : List Sn} {k : Nat} {x : Sn} (h : ss[k]? = some x) : pc ss (k + 1) = x.c + 1 := by
 unfold pc
 rw [if_neg (by omega), Nat.add_sub_cancel, List.getD_eq_getElem?_getD, h]
 rfl
theorem inB_le {x a b : Int} (h : inB x a b = true) : a ≤ x ∧ x ≤ b := by unfold inB at h; simpa using h
theorem upto {α : Type} {xs : List α} {k : Nat} {P : Nat → α → Prop} (h : ∀ j y, j < k → xs[j]? = some y → P j y) {x : α} (hx : xs[k]? = some x) (hp : P k x) : ∀ j y, j < k + 1 → xs[j]? = some y → P j y := fun j y hj hy => by
 by_cases e : j = k
 ·subst e
  rw [hx] at hy
  cases hy
  exact hp
 ·exact h j y (by omega) hy

end Go.Proofs.YtakfniknkejgpaaDoor.Tp

/- Tables that are right: the program's locks, what was seen, the whole. -/
namespace Go.Proofs.YtakfniknkejgpaaDoor.Tp
open Go.RowKit Go.Proofs.YtakfniknkejgpaaDoor.Sl Go.Proofs.YtakfniknkejgpaaDoor.Ap Go.Proofs.YtakfniknkejgpaaDoor.Tx Go.Proofs.YtakfniknkejgpaaDoor.Tb Go.Proofs.YtakfniknkejgpaaDoor.Tw Go.Proofs.YtakfniknkejgpaaDoor.Rq

set_option maxRecDepth 100000 in
set_option maxHeartbeats 1600000 in
theorem l05Answer_any (k t h e0 : Int) (w : World) :
 Calls Tryd.prog 58 #[.agg #[.int .i64 k, .int .i64 t, .int .i64 h, .int .i64 e0]] w fun e w' => e = .returned (.bool (bOf (AnsOK k t h e0))) ∧ Below w.heap.size w w' := by
 cases h1 : inB k 1 8 with
 | false =>
   have HF : Hid (bOf (AnsOK k t h e0) = false) := bOf_false fun h => by have := (h.1); rw [h1] at this; cases this
   go_enter Tryd.func58, Tryd.ntmps58
   go_wp2_with (go_at_call 49; refine (l01In_any _ _ _ _).mono ?_; rintro e w1 ⟨rfl, rfl⟩; rw [h1])
   go_ret
   exact ⟨ret_bool HF.out.symm, bel_new _ _⟩
 | true =>
   cases h2 : inB t 0 1000000 with
   | false =>
     have HF : Hid (bOf (AnsOK k t h e0) = false) := bOf_false fun h => by have := (h.2.1); rw [h2] at this; cases this
     go_enter Tryd.func58, Tryd.ntmps58
     go_wp2_with (go_at_call 49; refine (l01In_any _ _ _ _).mono ?_; rintro e w1 ⟨rfl, rfl⟩; first | rw [h1] | rw [h2])
     go_ret
     exact ⟨ret_bool HF.out.symm, bel_new _ _⟩
   | true =>
     cases h3 : inB h (-1) 255 with
     | false =>
       have HF : Hid (bOf (AnsOK k t h e0) = false) := bOf_false fun h => by have := (h.2.2.1); rw [h3] at this; cases this
       go_enter Tryd.func58, Tryd.ntmps58
       go_wp2_with (go_at_call 49; refine (l01In_any _ _ _ _).mono ?_; rintro e w1 ⟨rfl, rfl⟩; first | rw [h1] | rw [h2] | rw [h3])
       go_ret
       exact ⟨ret_bool HF.out.symm, bel_new _ _⟩
     | true =>
       cases h4 : inB e0 0 2000000000 with
       | false =>
         have HF : Hid (bOf (AnsOK k t h e0) = false) := bOf_false fun h => by have := (h.2.2.2); rw [h4] at this; cases this
         go_enter Tryd.func58, Tryd.ntmps58
         go_wp2_with (go_at_call 49; refine (l01In_any _ _ _ _).mono ?_; rintro e w1 ⟨rfl, rfl⟩; first | rw [h1] | rw [h2] | rw [h3] | rw [h4])
         go_ret
         exact ⟨ret_bool HF.out.symm, bel_new _ _⟩
       | true =>
         have HF : Hid (bOf (AnsOK k t h e0) = true) := bOf_true ⟨h1, h2, h3, h4⟩
         go_enter Tryd.func58, Tryd.ntmps58
         go_wp2_with (go_at_call 49; refine (l01In_any _ _ _ _).mono ?_; rintro e w1 ⟨rfl, rfl⟩; first | rw [h1] | rw [h2] | rw [h3] | rw [h4])
         go_ret
         exact ⟨ret_bool HF.out.symm, bel_new _ _⟩
theorem pc_ge {xs : List Sn} : ∀ {k : Nat}, (∀ (j : Nat) (y : Sn), j < k → xs[j]? = some y → SOne (pc xs j) y) → k ≤ xs.length → 0 ≤ pc xs k
 | 0, _, _ => by unfold pc; simp
 | k + 1, h, hk => by
   obtain ⟨x, hx⟩ := Tw.get_at (xs := xs) (k := k) (by omega)
   have ih := pc_ge (k := k) (fun j y hj hy => h j y (by omega) hy) (by omega)
   have := (inB_le (h k x (by omega) hx).1).1
   rw [pc_succ hx]
   omega
end Go.Proofs.YtakfniknkejgpaaDoor.Tp
