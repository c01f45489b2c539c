/- The first place of a call in a log: the program. -/
import Derived.Test.YtkmnjnblacmjlaaHnb
namespace Go.Proofs.Ytkmnjnblacmjlaa.Hn
open Go.RowKit Go.Shelf Go.Proofs.Ytkmnjnblacmjlaa.Sl Go.Proofs.Ytkmnjnblacmjlaa.By Go.Proofs.Ytkmnjnblacmjlaa.Ap Go.Proofs.Ytkmnjnblacmjlaa.Tkb
open Go.Proofs.Ytkmnjnblacmjlaa.Tx (RowT RowT.below tnth tnth_at tnth_mem)
attribute [local go_sem] Oper.semAt_some
/-- A request's box. -/
def BoxR (W : World) (B : Nat) (x : Bv) : Prop := W.heap[B]? = some (.cells #[.int .i64 x.c, .int .i64 x.st, .int .i64 x.k, .int .i64 x.l, .string x.n] 32 (0, 0))
theorem boxR_own (B : Nat) (x : Bv) : Own (fun (_ : Unit) W => BoxR W B x) := fun _ X Y row hs hg hrow => by
  have hlt := (Array.getElem?_eq_some_iff.1 hs).1
  exact (hg.block B hlt (fun e' => by obtain ⟨o, ho, hc⟩ := hrow B e'.symm; rw [show X.heap[B]? = _ from hs] at ho; cases ho; cases hc)).trans hs
theorem boxR_new (W : World) (x : Bv) : BoxR (W.alloc (.cells #[.int .i64 x.c, .int .i64 x.st, .int .i64 x.k, .int .i64 x.l, .string x.n] 32)) W.heap.size x := World.alloc_heap_new W _
theorem BoxR.cell {W : World} {B : Nat} {x : Bv} (h : BoxR W B x) : W.cell? ⟨B, 0, none⟩ = some (.int .i64 x.c) ∧ W.cell? ⟨B, 1, none⟩ = some (.int .i64 x.st) := by
  constructor <;> simp [World.cell?, show W.heap[B]? = _ from h]
def NoHit (c s : Int) (pre : List Pt) : Prop := (pre.find? fun p => hitB c s p.2) = none
def HitAt (c s : Int) (pre : List Pt) (v : Value) : Prop := ∃ ini x, pre = ini ++ [x] ∧ (ini.find? fun p => hitB c s p.2) = none ∧ hitB c s x.2 = true ∧ v = .int .i64 (x.1 : Int)
def BoxHit (c s : Int) (B : Nat) (pre : List Pt) (W : World) : Prop := ∃ v, Boxed W B 3 v ∧ HitAt c s pre v
set_option maxRecDepth 100000 in
set_option maxHeartbeats 4000000 in
theorem firstPlace_in (n : Nat) (hn : 6 ≤ n) (a : Option Addr) (cap : Nat) (ts : List ByteArray) (c s : Int) (w : World) (hR : RowT w (.slice a ts.length cap) ts) (hl : ts.length ≤ 1000000) (hs : ∀ t ∈ ts, t.size ≤ 20000) :
    CallsIn Fence.wide n Try.prog 11 #[.slice a ts.length cap, .int .i64 c, .int .i64 s] w fun e W' => e = .returned (.int .i64 (fp c s ts)) ∧ Below w.heap.size w W' := by
  have h1 : 1 ≤ n := by omega
  refine callsIn_of_wp_marks Try.func11 rfl trivial ?_ rfl
  simp only [Try.ntmps11, List.size_toArray, List.length_cons, List.length_nil, Nat.reduceAdd, Nat.reduceSub, Array.replicate_succ, Array.replicate_zero, List.push_toArray, List.append_toArray, List.nil_append, List.cons_append]
  gi_wp2_with (refine ⟨trivial, ?_⟩; gi_at_call 13; refine (callsIn_any (n - 1) _ _ _ _).mono ?_; rintro e w' ⟨rfl, rfl⟩)
  have bC := (((Boxed.new w 3 (.int .i64 c)).alloc (.cells #[.int .i64 s] 3)).alloc (.cells #[.int .i64 0] 3)).alloc (.cells #[.slice a ts.length cap] 22)
  have bS := ((Boxed.new (w.alloc (.cells #[.int .i64 c] 3)) 3 (.int .i64 s)).alloc (.cells #[.int .i64 0] 3)).alloc (.cells #[.slice a ts.length cap] 22)
  have bP := (Boxed.new ((w.alloc (.cells #[.int .i64 c] 3)).alloc (.cells #[.int .i64 s] 3)) 3 (.int .i64 0)).alloc (.cells #[.slice a ts.length cap] 22)
  have bL := Boxed.new (((w.alloc (.cells #[.int .i64 c] 3)).alloc (.cells #[.int .i64 s] 3)).alloc (.cells #[.int .i64 0] 3)) 22 (.slice a ts.length cap)
  simp only [World.size_alloc] at bS bP bL
  have hB0 : Below w.heap.size w ((((w.alloc (.cells #[.int .i64 c] 3)).alloc (.cells #[.int .i64 s] 3)).alloc (.cells #[.int .i64 0] 3)).alloc (.cells #[.slice a ts.length cap] 22)) := ((((Below.refl _ w).alloc (Nat.le_refl _) _).alloc (by simp) _).alloc (by simp; omega) _).alloc (by simp; omega) _
  have hsz : ((((w.alloc (.cells #[.int .i64 c] 3)).alloc (.cells #[.int .i64 s] 3)).alloc (.cells #[.int .i64 0] 3)).alloc (.cells #[.slice a ts.length cap] 22)).heap.size = w.heap.size + 4 := by simp
  obtain ⟨W0, hW0⟩ : ∃ W0, (((w.alloc (.cells #[.int .i64 c] 3)).alloc (.cells #[.int .i64 s] 3)).alloc (.cells #[.int .i64 0] 3)).alloc (.cells #[.slice a ts.length cap] 22) = W0 := ⟨_, rfl⟩
  rw [hW0] at bC bS bP bL hB0 hsz ⊢
  clear hW0
  refine wpIn_rangeFunc_ownH rfl h1 (gf := 17) (lb := #[.pointer (some ⟨w.heap.size + 1 + 1 + 1, 0, none⟩)]) rfl trivial (enters_of Try.func17 (by kernel_rfl) rfl)
    (callsIn_stops (n - 1) (by omega) (w.heap.size + 1 + 1 + 1) a cap ts w W0 hR hl hs hB0 bL.cell (by omega)) belowK_t (belowK_b (by omega)) (Below.refl _ _) (fun _ => rfl)
    (fun pre W => (((NoHit c s pre ∧ Boxed W w.heap.size 3 (.int .i64 c)) ∧ Boxed W (w.heap.size + 1) 3 (.int .i64 s)) ∧ Boxed W (w.heap.size + 1 + 1) 3 (.int .i64 0)) ∧ Below w.heap.size w W)
    (fun cd pre W => (cd = .ret ∧ BoxHit c s (w.heap.size + 1 + 1) pre W) ∧ Below w.heap.size w W)
    (OwnFrom.and (Own.from (fun sx X Y row hs hg hr => ⟨⟨⟨hs.1.1.1, boxed_own w.heap.size 3 (fun (_ : Unit) => Value.int .i64 c) () X Y row hs.1.1.2 hg hr⟩, boxed_own (w.heap.size + 1) 3 (fun (_ : Unit) => Value.int .i64 s) () X Y row hs.1.2 hg hr⟩, boxed_own (w.heap.size + 1 + 1) 3 (fun (_ : Unit) => Value.int .i64 0) () X Y row hs.2 hg hr⟩) _) (ownFrom_below (Nat.le_refl _) (by omega)))
    (fun cd => OwnFrom.and (Own.from (fun sx X Y row hs hg hr => by
      obtain ⟨h0, v, h2, h3⟩ := hs
      exact ⟨h0, v, boxed_own (w.heap.size + 1 + 1) 3 (fun (_ : Unit) => v) () X Y row h2 hg hr, h3⟩) _) (ownFrom_below (Nat.le_refl _) (by omega)))
    ⟨⟨⟨⟨rfl, bC⟩, bS⟩, bP⟩, hB0⟩
    (fun x a' W => ∃ Bx, w.heap.size + 1 + 1 < Bx ∧ BoxR W Bx (bx x.2) ∧ a' = { tmps := #[.slice a ts.length cap, .int .i64 c, .int .i64 s, undef, .pointer (some ⟨w.heap.size, 0, none⟩), .pointer (some ⟨w.heap.size + 1, 0, none⟩), .pointer (some ⟨w.heap.size + 1 + 1, 0, none⟩), .int .i64 (x.1 : Int), .pointer (some ⟨Bx, 0, none⟩), .slice a ts.length cap, .func (.func 17) #[] #[.pointer (some ⟨w.heap.size + 1 + 1 + 1, 0, none⟩)], .int .i64 (x.1 : Int), rqV (bx x.2), undef, undef, undef, undef, undef, undef, undef, undef, undef, undef, undef], defers := [] })
    (fun x a' _ X Y row hs hg hr => by obtain ⟨Bx, h1, h2, h3⟩ := hs; exact ⟨Bx, h1, boxR_own Bx (bx x.2) () X Y row h2 hg (fun r e => (hr r e).2), h3⟩)
    ?assign ?body ?done ?stop
  case assign =>
    rintro l pre x W K ⟨⟨⟨⟨hf, bC1⟩, bS1⟩, bP1⟩, hB1⟩ hK
    unfold encs
    unfold rqV at hK ⊢
    generalize bx x.2 = X at hK ⊢
    gi_wp2
    exact hK _ _ ((KeepsOthers.alloc _ _).from _) ((Below.refl _ W).alloc hB1.size _) ⟨⟨⟨⟨hf, bC1.alloc _⟩, bS1.alloc _⟩, bP1.alloc _⟩, hB1.alloc hB1.size _⟩ ⟨W.heap.size, bP1.lt, boxR_new W X, rfl⟩
  case body =>
    rintro l pre x a' W hl' ⟨r, hr⟩ ⟨⟨⟨⟨hf, bC1⟩, bS1⟩, bP1⟩, hB1⟩ ⟨Bx, hBx, bX, rfl⟩ hlt
    have cC := bC1.cell
    have cS := bS1.cell
    have cP := bP1.cell
    have fP := bP1.frozen
    obtain ⟨x0, x1⟩ := bX.cell
    have hhit : hitB c s x.2 = (((bx x.2).c == c) && ((bx x.2).st == s)) := rfl
    obtain ⟨place, t⟩ := x
    dsimp only at x0 x1 hhit ⊢
    unfold rqV
    generalize bx t = X at x0 x1 hhit ⊢
    cases h1 : X.c == c with
    | false =>
      rw [h1] at hhit
      have HNX : NoHit c s (pre ++ [(place, t)]) := find_snoc _ hf hhit
      gi_wp2
      exact ⟨KeepsFrom.refl _ _, Below.refl _ _, ⟨⟨⟨HNX, bC1⟩, bS1⟩, bP1⟩, hB1⟩
    | true =>
      cases h2 : X.st == s with
      | false =>
        rw [h1, h2] at hhit
        have HNX : NoHit c s (pre ++ [(place, t)]) := find_snoc _ hf hhit
        gi_wp2
        exact ⟨KeepsFrom.refl _ _, Below.refl _ _, ⟨⟨⟨HNX, bC1⟩, bS1⟩, bP1⟩, hB1⟩
      | true =>
        rw [h1, h2] at hhit
        have HHT : HitAt c s (pre ++ [(place, t)]) (.int .i64 (place : Int)) := ⟨pre, (place, t), rfl, hf, hhit, rfl⟩
        gi_wp2
        exact ⟨(KeepsOthers.setCell _ _ _).from _, ⟨rfl, _, bP1.set _, HHT⟩, hB1.setCell (p := ⟨w.heap.size + 1 + 1, 0, none⟩) (by simp; omega) _⟩
  case done =>
    rintro D ys W hD rfl ⟨⟨⟨⟨hf, bC1⟩, bS1⟩, bP1⟩, hB1⟩ hK
    have cP1 := bP1.cell
    have fP1 := bP1.frozen
    have hE : Hid (fp c s ts = -1) := fp_none hf
    clear hf
    gi_wp2
    have hK' := (KeepsOthers.setCell W ⟨w.heap.size + 1 + 1, 0, none⟩ (.int .i64 (-1))).same D _ hK rfl
    refine ⟨by simp, .inl ⟨_, _, rfl, run_takeDeferred hK', ?_⟩⟩
    have hc5 := cell_kept (World.cell?_setCell_same' W ⟨w.heap.size + 1 + 1, 0, none⟩ (.int .i64 (-1)) (by rw [cP1]; rfl)) (grownBy_putObj' _ D (.deferred none)) (fun r e => by cases e; exact ⟨_, hK', rfl⟩)
    refine ⟨.int .i64 (-1), ?_, by rw [hE.out], (hB1.setCell (p := ⟨w.heap.size + 1 + 1, 0, none⟩) (by simp; omega) _).trans (belowK_b (w := w) (Nat.le_refl _) _ D _ _ (by omega) hK' rfl rfl)⟩
    simp [results, Try.f11, go_sem, hc5]
  case stop =>
    rintro D cd pre W hD hpre ⟨⟨rfl, v, bP1, ini, x, e1, hf, hh, rfl⟩, hB1⟩ hK
    subst e1
    have hE : Hid (fp c s ts = (x.1 : Int)) := fp_hit hf hh hpre
    have cP1 := bP1.cell
    clear hf hh hpre
    gi_wp2
    refine ⟨by simp, .inl ⟨_, _, rfl, run_takeDeferred hK, ?_⟩⟩
    have hc5 := cell_kept cP1 (grownBy_putObj' _ D (.deferred none)) (fun r e => by cases e; exact ⟨_, hK, rfl⟩)
    refine ⟨.int .i64 (x.1 : Int), ?_, by rw [hE.out], hB1.trans (belowK_b (w := w) (Nat.le_refl _) W D _ _ (by omega) hK rfl rfl)⟩
    simp [results, Try.f11, go_sem, hc5]
theorem firstPlace_any (v : Value) (ts : List ByteArray) (c s : Int) (w : World) (hR : RowT w v ts) (hl : ts.length ≤ 1000000) (hs : ∀ t ∈ ts, t.size ≤ 20000) :
    Calls Try.prog 11 #[v, .int .i64 c, .int .i64 s] w fun e w' => e = .returned (.int .i64 (fp c s ts)) ∧ Below w.heap.size w w' := by
  have hR0 := hR
  obtain ⟨a, cap, rfl, _⟩ := hR
  exact (callsIn_wide (n := 8)).1 (firstPlace_in 8 (by omega) a cap ts c s w hR0 hl hs)
end Go.Proofs.Ytkmnjnblacmjlaa.Hn
