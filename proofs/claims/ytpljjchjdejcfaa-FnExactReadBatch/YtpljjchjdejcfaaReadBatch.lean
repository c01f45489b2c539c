/-
  impl.ReadBatch answers at every []byte just what the specification's ReadCert answers; it writes into no argument, and its answer owns its memory.
  Conditions: none beyond the given row's own.
-/
import Derived.Test.YtpljjchjdejcfaaOpb
import Derived.Test.YtpljjchjdejcfaaRd5
import Derived.Test.YtpljjchjdejcfaaSbr
import Derived.WalkKit
import Derived.ProofKit
import Derived.OpenShut
import Derived.ShutString
import Derived.ChangeOld
import Derived.Below
namespace Go.Proofs.Ytpljjchjdejcfaa.fnExactReadBatch
open Go.ChangeShapes Go.WideShapes Go.ChangeAt Go.RowKit
open Go.ChangeMaps (open_string shut_string)

theorem own : ownKnob Try.prog.godebug = none := by kernel_rfl
theorem laidOut : laidOutB Try.prog = true := by kernel_rfl

open Go.Proofs.Ytpljjchjdejcfaa.Rq Go.Proofs.Ytpljjchjdejcfaa.Rr Go.Proofs.Ytpljjchjdejcfaa.Ap Go.Proofs.Ytpljjchjdejcfaa.By Go.Proofs.Ytpljjchjdejcfaa.Sl Go.Proofs.Ytpljjchjdejcfaa.Gr Go.Proofs.Ytpljjchjdejcfaa.Bo Go.Proofs.Ytpljjchjdejcfaa.Tkb Go.Proofs.Ytpljjchjdejcfaa.Mk
open Go.Proofs.Ytpljjchjdejcfaa.Rl (toByteO_any own_copied)
open Go.Proofs.Ytpljjchjdejcfaa.Rg (bel_new RowG.slice)
/-- What stands while the law runs: both boxes, the specification's answer, and what was there before. -/
structure St (w0 w : World) (x y B2 : Nat) (C D : Array Value) (v2 : Value) (ms : List Rd) : Prop where
  hx : w.heap[x]? = some (.cells C 60 (0, 0))
  hy : w.heap[y]? = some (.cells D 60 (0, 0))
  o2 : OwnR w B2 v2 ms
  bel : Below w0.heap.size w0 w
theorem St.below {w0 w w' : World} {x y B2 : Nat} {C D : Array Value} {v2 : Value} {ms : List Rd} (h : St w0 w x y B2 C D v2 ms) (hb : Below w.heap.size w w') : St w0 w' x y B2 C D v2 ms :=
  ⟨(hb.block x (Array.getElem?_eq_some_iff.1 h.hx).1).trans h.hx, (hb.block y (Array.getElem?_eq_some_iff.1 h.hy).1).trans h.hy, h.o2.below hb, h.bel.trans (hb.mono h.bel.size)⟩
theorem kp_bel {w w' : World} {v : Value} {B : Nat} (h : Kp w w' v v) (hB : B ≤ w.heap.size) (hg : ∀ g, v.ownBlock = some g → B ≤ g) : Below B w w' :=
  ⟨h.os, h.tape, h.output, h.size, fun k hk => h.block k (by omega) (fun e => by have := hg k e.symm; omega)⟩
theorem St.kp {w0 w w' : World} {x y B2 : Nat} {C D : Array Value} {v2 v : Value} {ms : List Rd} (h : St w0 w x y B2 C D v2 ms) (hk : Kp w w' v v) (h1 : ∀ g, v.ownBlock = some g → x < g ∧ g ≠ y ∧ w0.heap.size ≤ g) (h2 : ∀ g, v2.ownBlock = some g → g < x) : St w0 w' x y B2 C D v2 ms :=
  ⟨kp_block hk h.hx (fun e => by have := h1 x e.symm; omega), kp_block hk h.hy (fun e => by have := h1 y e.symm; omega),
   h.o2.kept (fun g hg => hk.block g (h.o2.lt g hg).2 (fun e => by have := h1 g e.symm; have := h2 g hg; omega)),
   h.bel.trans (kp_bel hk h.bel.size (fun g hg => (h1 g hg).2.2))⟩
set_option maxRecDepth 100000 in
set_option maxHeartbeats 3200000 in
/-- THE WALK: both functions answer alike; the copy that was handed in is as it was, the answer owns its memory, behind another call too. -/
theorem walk (v : Value) (xs : List Int) (w : World) (hrow : RowB w v xs) :
    Calls Try.prog 9 #[v] w fun e w' => e = .returned (.bool true) ∧ Below w.heap.size w w' := by
  have HR : Hid (RowB w v xs) := hrow
  obtain ⟨a, cap, rfl, _, hr⟩ := hrow
  by_cases hbig : (1048576 : Int) < (xs.length : Int)
  · go_enter Try.func9, Try.ntmps9
    go_wp2
    go_ret
    exact ⟨rfl, Below.refl _ _⟩
  have hl : xs.length ≤ 1048576 := by omega
  have GZ0 := rbX_len xs hr hl
  obtain ⟨bx, HD⟩ : ∃ bx, Hid (rbX xs = bx) := ⟨_, rfl⟩
  obtain ⟨ms, HX⟩ : ∃ ms, Hid (bx.rs = ms) := ⟨_, rfl⟩
  obtain ⟨code, HC⟩ : ∃ code, Hid (rbC xs = code) := ⟨_, rfl⟩
  obtain ⟨mk, HMK⟩ : ∃ mk : Nat, Hid (1 + ms.length * 3 = mk) := ⟨_, rfl⟩
  rw [HD.out, HX.out] at GZ0
  have GZ : Hid (∀ _ : Unit, ms.length ≤ 1048576) := fun _ => by omega
  have HL : Hid (∀ _ : Unit, xs.length ≤ 1048576) := fun _ => hl
  have GR : Hid (∀ z ∈ xs, 0 ≤ z ∧ z ≤ 255) := hr
  have HSP : Hid (∀ W v, RowB W v xs → Calls Try.prog 38 #[v] W fun e w' => ∃ a2 cap2, e = .returned (.tuple #[.agg #[.bool bx.nl, .int .i64 bx.c, .int .i64 bx.st, .int .i64 bx.k, .int .i64 bx.l, .string bx.n, .slice a2 ms.length cap2], .int .i64 code]) ∧ OwnR w' W.heap.size (.slice a2 ms.length cap2) ms ∧ Below W.heap.size W w') := fun W v h => by
    refine (specReadBatch_any v xs W h hl).mono ?_
    rintro e w' ⟨vp, rfl, o, b⟩
    rw [HD.out, HX.out] at o
    rw [HD.out, HC.out]
    obtain ⟨a2, cap2, rfl⟩ := RowG.slice (OwnR.row o)
    exact ⟨a2, cap2, rfl, o, b⟩
  have HIM : Hid (∀ W v, RowB W v xs → Calls Try.prog 39 #[v] W fun e w' => ∃ a2 cap2, e = .returned (.tuple #[.agg #[.bool bx.nl, .int .i64 bx.c, .int .i64 bx.st, .int .i64 bx.k, .int .i64 bx.l, .string bx.n, .slice a2 ms.length cap2], .int .i64 code]) ∧ OwnR w' W.heap.size (.slice a2 ms.length cap2) ms ∧ Below W.heap.size W w') := fun W v h => by
    refine (implReadBatch_any v xs W h hl).mono ?_
    rintro e w' ⟨vp, rfl, o, b⟩
    rw [HD.out, HX.out] at o
    rw [HD.out, HC.out]
    obtain ⟨a2, cap2, rfl⟩ := RowG.slice (OwnR.row o)
    exact ⟨a2, cap2, rfl, o, b⟩
  have hcc : (code != code) = false := by simp
  have hml : ¬ ((1 : Int) + (xs.length : Int) < 0) := by omega
  have hmt : ¬ ((mk : Int) < 0) := by omega
  have hmm : ((mk : Int) != (mk : Int)) = false := by simp
  clear GZ0 hr hl HX HD HC
  go_enter Try.func9, Try.ntmps9
  go_wp2_with fail
  refine (toByteS_any _ xs _ HR.out (HL.out ())).mono ?_
  rintro e w1 ⟨v1, rfl, r1, b1⟩
  go_wp2_with fail
  refine (HSP.out _ _ r1).mono ?_
  rintro e w2 ⟨a2, cap2, rfl, o2, b2⟩
  have B2 := andThen b1 (Nat.le_refl _) b2
  have X2 : Hid ((w2.alloc (.cells #[.bool bx.nl, .int .i64 bx.c, .int .i64 bx.st, .int .i64 bx.k, .int .i64 bx.l, .string bx.n, .slice a2 ms.length cap2] 60)).heap[w2.heap.size]? = some (.cells #[.bool bx.nl, .int .i64 bx.c, .int .i64 bx.st, .int .i64 bx.k, .int .i64 bx.l, .string bx.n, .slice a2 ms.length cap2] 60 (0, 0)) ∧ OwnR (w2.alloc (.cells #[.bool bx.nl, .int .i64 bx.c, .int .i64 bx.st, .int .i64 bx.k, .int .i64 bx.l, .string bx.n, .slice a2 ms.length cap2] 60)) w1.heap.size (.slice a2 ms.length cap2) ms ∧ Below w.heap.size w (w2.alloc (.cells #[.bool bx.nl, .int .i64 bx.c, .int .i64 bx.st, .int .i64 bx.k, .int .i64 bx.l, .string bx.n, .slice a2 ms.length cap2] 60))) := ⟨heap_alloc_new w2 _, o2.alloc _, B2.alloc B2.size _⟩
  have L2 : Hid (∀ g, (Value.slice a2 ms.length cap2).ownBlock = some g → g < w2.heap.size) := fun g hg => (o2.lt g hg).2
  clear r1 b1 b2 o2
  have M2 : Hid (w.heap.size ≤ w2.heap.size) := B2.size
  clear B2
  go_wp2_with fail
  refine (toByteO_any _ xs _ (HR.out.below X2.out.2.2) (HL.out ())).mono ?_
  rintro e w3 ⟨v3, rfl, o3, b3⟩
  have s2 : (w2.alloc (.cells #[.bool bx.nl, .int .i64 bx.c, .int .i64 bx.st, .int .i64 bx.k, .int .i64 bx.l, .string bx.n, .slice a2 ms.length cap2] 60)).heap.size = w2.heap.size + 1 := by simp
  have X3 : Hid (w3.heap[w2.heap.size]? = some (.cells #[.bool bx.nl, .int .i64 bx.c, .int .i64 bx.st, .int .i64 bx.k, .int .i64 bx.l, .string bx.n, .slice a2 ms.length cap2] 60 (0, 0)) ∧ OwnR w3 w1.heap.size (.slice a2 ms.length cap2) ms ∧ Below w.heap.size w w3 ∧ OwnB 5 w3 (w2.heap.size + 1) v3 xs) := ⟨(b3.block _ (by rw [s2]; omega)).trans X2.out.1, X2.out.2.1.below b3, X2.out.2.2.trans (b3.mono X2.out.2.2.size), by rw [s2] at o3; exact o3⟩
  have L3 : Hid (∀ g, v3.ownBlock = some g → w2.heap.size < g ∧ g < w3.heap.size) := fun g hg => by have := World.ownsRow.lt X3.out.2.2.2 g hg; omega
  have M3 : Hid (w2.heap.size < w3.heap.size) := (Array.getElem?_eq_some_iff.1 X3.out.1).1
  clear o3 b3 X2 s2
  go_wp2_with fail
  refine (HIM.out _ _ (own_rowB X3.out.2.2.2 GR.out)).mono ?_
  rintro e w4 ⟨a4, cap4, rfl, o4, b4⟩
  have L4 : Hid (∀ g, (Value.slice a4 ms.length cap4).ownBlock = some g → w3.heap.size ≤ g ∧ g < w4.heap.size) := fun g hg => o4.lt g hg
  have M4 : Hid (w3.heap.size ≤ w4.heap.size) := b4.size
  have b5 : Below w3.heap.size w3 (w4.alloc (.cells #[.bool bx.nl, .int .i64 bx.c, .int .i64 bx.st, .int .i64 bx.k, .int .i64 bx.l, .string bx.n, .slice a4 ms.length cap4] 60)) := b4.alloc b4.size _
  have S5 : Hid (St w (w4.alloc (.cells #[.bool bx.nl, .int .i64 bx.c, .int .i64 bx.st, .int .i64 bx.k, .int .i64 bx.l, .string bx.n, .slice a4 ms.length cap4] 60)) w2.heap.size w4.heap.size w1.heap.size #[.bool bx.nl, .int .i64 bx.c, .int .i64 bx.st, .int .i64 bx.k, .int .i64 bx.l, .string bx.n, .slice a2 ms.length cap2] #[.bool bx.nl, .int .i64 bx.c, .int .i64 bx.st, .int .i64 bx.k, .int .i64 bx.l, .string bx.n, .slice a4 ms.length cap4] (.slice a2 ms.length cap2) ms) := ⟨(b5.block _ M3.out).trans X3.out.1, heap_alloc_new w4 _, X3.out.2.1.below b5, X3.out.2.2.1.trans (b5.mono X3.out.2.2.1.size)⟩
  have O5 : Hid (OwnR (w4.alloc (.cells #[.bool bx.nl, .int .i64 bx.c, .int .i64 bx.st, .int .i64 bx.k, .int .i64 bx.l, .string bx.n, .slice a4 ms.length cap4] 60)) w3.heap.size (.slice a4 ms.length cap4) ms) := o4.alloc _
  have T5 : Hid (OwnB 5 (w4.alloc (.cells #[.bool bx.nl, .int .i64 bx.c, .int .i64 bx.st, .int .i64 bx.k, .int .i64 bx.l, .string bx.n, .slice a4 ms.length cap4] 60)) (w2.heap.size + 1) v3 xs) := own_below X3.out.2.2.2 b5
  clear b4 b5 o4 X3
  go_upto_region 6 with fail
  generalize w4.alloc (.cells #[.bool bx.nl, .int .i64 bx.c, .int .i64 bx.st, .int .i64 bx.k, .int .i64 bx.l, .string bx.n, .slice a4 ms.length cap4] 60) = w5 at S5 O5 T5 ⊢
  generalize w4.heap.size = y5 at S5 L4 M4 ⊢
  generalize w3.heap.size = z5 at L3 M3 L4 M4 O5
  generalize w2.heap.size = x5 at S5 L2 M2 L3 M3 T5 ⊢
  generalize w1.heap.size = z1 at S5
  have xc0 := (Rg.blk_cell S5.out.hx 0 (x := .bool bx.nl) rfl).1
  have xc1 := (Rg.blk_cell S5.out.hx 1 (x := .int .i64 bx.c) rfl).1
  have xc2 := (Rg.blk_cell S5.out.hx 2 (x := .int .i64 bx.st) rfl).1
  have xc3 := (Rg.blk_cell S5.out.hx 3 (x := .int .i64 bx.k) rfl).1
  have xc4 := (Rg.blk_cell S5.out.hx 4 (x := .int .i64 bx.l) rfl).1
  have xc5 := (Rg.blk_cell S5.out.hx 5 (x := .string bx.n) rfl).1
  have xc6 := (Rg.blk_cell S5.out.hx 6 (x := .slice a2 ms.length cap2) rfl).1
  have yc0 := (Rg.blk_cell S5.out.hy 0 (x := .bool bx.nl) rfl).1
  have yc1 := (Rg.blk_cell S5.out.hy 1 (x := .int .i64 bx.c) rfl).1
  have yc2 := (Rg.blk_cell S5.out.hy 2 (x := .int .i64 bx.st) rfl).1
  have yc3 := (Rg.blk_cell S5.out.hy 3 (x := .int .i64 bx.k) rfl).1
  have yc4 := (Rg.blk_cell S5.out.hy 4 (x := .int .i64 bx.l) rfl).1
  have yc5 := (Rg.blk_cell S5.out.hy 5 (x := .string bx.n) rfl).1
  have yc6 := (Rg.blk_cell S5.out.hy 6 (x := .slice a4 ms.length cap4) rfl).1
  go_wp2_with fail
  refine (Hb.eq_same bx.nl bx.c bx.st bx.k bx.l bx.n _ _ ms _ O5.out.row S5.out.o2.row (GZ.out ())).mono ?_
  rintro e w6 ⟨rfl, b6⟩
  have S6 : Hid (St w w6 x5 y5 z1 #[.bool bx.nl, .int .i64 bx.c, .int .i64 bx.st, .int .i64 bx.k, .int .i64 bx.l, .string bx.n, .slice a2 ms.length cap2] #[.bool bx.nl, .int .i64 bx.c, .int .i64 bx.st, .int .i64 bx.k, .int .i64 bx.l, .string bx.n, .slice a4 ms.length cap4] (.slice a2 ms.length cap2) ms) := S5.out.below b6
  have O6 : Hid (OwnR w6 z5 (.slice a4 ms.length cap4) ms) := O5.out.below b6
  have T6 : Hid (OwnB 5 w6 (x5 + 1) v3 xs) := own_below T5.out b6
  clear b6 S5 O5 T5 xc0 xc1 xc2 xc3 xc4 xc5 xc6 yc0 yc1 yc2 yc3 yc4 yc5 yc6
  go_wp2_with fail
  refine (toByteS_any _ xs _ (HR.out.below S6.out.bel) (HL.out ())).mono ?_
  rintro e w7 ⟨v7, rfl, t7, b7⟩
  have S7 : Hid (St w w7 x5 y5 z1 #[.bool bx.nl, .int .i64 bx.c, .int .i64 bx.st, .int .i64 bx.k, .int .i64 bx.l, .string bx.n, .slice a2 ms.length cap2] #[.bool bx.nl, .int .i64 bx.c, .int .i64 bx.st, .int .i64 bx.k, .int .i64 bx.l, .string bx.n, .slice a4 ms.length cap4] (.slice a2 ms.length cap2) ms) := S6.out.below b7
  have O7 : Hid (OwnR w7 z5 (.slice a4 ms.length cap4) ms) := O6.out.below b7
  have T7 : Hid (OwnB 5 w7 (x5 + 1) v3 xs) := own_below T6.out b7
  clear b7 S6 O6 T6
  go_wp2_with fail
  refine (eqByteS_same _ _ xs _ (own_rowB T7.out GR.out) t7 (HL.out ())).mono ?_
  rintro e w8 ⟨rfl, b8⟩
  have S8 : Hid (St w w8 x5 y5 z1 #[.bool bx.nl, .int .i64 bx.c, .int .i64 bx.st, .int .i64 bx.k, .int .i64 bx.l, .string bx.n, .slice a2 ms.length cap2] #[.bool bx.nl, .int .i64 bx.c, .int .i64 bx.st, .int .i64 bx.k, .int .i64 bx.l, .string bx.n, .slice a4 ms.length cap4] (.slice a2 ms.length cap2) ms) := S7.out.below b8
  have O8 : Hid (OwnR w8 z5 (.slice a4 ms.length cap4) ms) := O7.out.below b8
  have T8 : Hid (OwnB 5 w8 (x5 + 1) v3 xs) := own_below T7.out b8
  clear b8 S7 O7 T7 t7
  go_wp2_with fail
  refine (markByteS_any _ xs 1 (x5 + 1) _ T8.out (by decide) (by decide) (by have := HL.out (); omega)).mono ?_
  rintro e w9 ⟨rfl, _, k9⟩
  have S9 : Hid (St w w9 x5 y5 z1 #[.bool bx.nl, .int .i64 bx.c, .int .i64 bx.st, .int .i64 bx.k, .int .i64 bx.l, .string bx.n, .slice a2 ms.length cap2] #[.bool bx.nl, .int .i64 bx.c, .int .i64 bx.st, .int .i64 bx.k, .int .i64 bx.l, .string bx.n, .slice a4 ms.length cap4] (.slice a2 ms.length cap2) ms) := S8.out.kp k9 (fun g hg => by have := L3.out g hg; have := M4.out; have := M2.out; omega) L2.out
  have O9 : Hid (OwnR w9 z5 (.slice a4 ms.length cap4) ms) := O8.out.kept (fun g hg => k9.block g (O8.out.lt g hg).2 (fun e => by have := L3.out g e.symm; have := L4.out g hg; omega))
  clear k9 S8 O8 T8
  have xc0 := (Rg.blk_cell S9.out.hx 0 (x := .bool bx.nl) rfl).1
  have xc1 := (Rg.blk_cell S9.out.hx 1 (x := .int .i64 bx.c) rfl).1
  have xc2 := (Rg.blk_cell S9.out.hx 2 (x := .int .i64 bx.st) rfl).1
  have xc3 := (Rg.blk_cell S9.out.hx 3 (x := .int .i64 bx.k) rfl).1
  have xc4 := (Rg.blk_cell S9.out.hx 4 (x := .int .i64 bx.l) rfl).1
  have xc5 := (Rg.blk_cell S9.out.hx 5 (x := .string bx.n) rfl).1
  have xc6 := (Rg.blk_cell S9.out.hx 6 (x := .slice a2 ms.length cap2) rfl).1
  have yc0 := (Rg.blk_cell S9.out.hy 0 (x := .bool bx.nl) rfl).1
  have yc1 := (Rg.blk_cell S9.out.hy 1 (x := .int .i64 bx.c) rfl).1
  have yc2 := (Rg.blk_cell S9.out.hy 2 (x := .int .i64 bx.st) rfl).1
  have yc3 := (Rg.blk_cell S9.out.hy 3 (x := .int .i64 bx.k) rfl).1
  have yc4 := (Rg.blk_cell S9.out.hy 4 (x := .int .i64 bx.l) rfl).1
  have yc5 := (Rg.blk_cell S9.out.hy 5 (x := .string bx.n) rfl).1
  have yc6 := (Rg.blk_cell S9.out.hy 6 (x := .slice a4 ms.length cap4) rfl).1
  go_wp2_with fail
  refine (Hb.eq_same bx.nl bx.c bx.st bx.k bx.l bx.n _ _ ms _ O9.out.row S9.out.o2.row (GZ.out ())).mono ?_
  rintro e w10 ⟨rfl, b10⟩
  have S10 : Hid (St w w10 x5 y5 z1 #[.bool bx.nl, .int .i64 bx.c, .int .i64 bx.st, .int .i64 bx.k, .int .i64 bx.l, .string bx.n, .slice a2 ms.length cap2] #[.bool bx.nl, .int .i64 bx.c, .int .i64 bx.st, .int .i64 bx.k, .int .i64 bx.l, .string bx.n, .slice a4 ms.length cap4] (.slice a2 ms.length cap2) ms) := S9.out.below b10
  have O10 : Hid (OwnR w10 z5 (.slice a4 ms.length cap4) ms) := O9.out.below b10
  clear b10 S9 O9 xc0 xc1 xc2 xc3 xc4 xc5 xc6 yc0 yc1 yc2 yc3 yc4 yc5 yc6
  have yc0 := (Rg.blk_cell S10.out.hy 0 (x := .bool bx.nl) rfl).1
  have yc1 := (Rg.blk_cell S10.out.hy 1 (x := .int .i64 bx.c) rfl).1
  have yc2 := (Rg.blk_cell S10.out.hy 2 (x := .int .i64 bx.st) rfl).1
  have yc3 := (Rg.blk_cell S10.out.hy 3 (x := .int .i64 bx.k) rfl).1
  have yc4 := (Rg.blk_cell S10.out.hy 4 (x := .int .i64 bx.l) rfl).1
  have yc5 := (Rg.blk_cell S10.out.hy 5 (x := .string bx.n) rfl).1
  have yc6 := (Rg.blk_cell S10.out.hy 6 (x := .slice a4 ms.length cap4) rfl).1
  go_wp2_with fail
  refine (markBatch_own bx _ ms z5 _ O10.out (GZ.out ())).mono ?_
  rintro e w11 ⟨rfl, h11, k11⟩
  rw [HMK.out]
  have S11 : Hid (St w w11 x5 y5 z1 #[.bool bx.nl, .int .i64 bx.c, .int .i64 bx.st, .int .i64 bx.k, .int .i64 bx.l, .string bx.n, .slice a2 ms.length cap2] #[.bool bx.nl, .int .i64 bx.c, .int .i64 bx.st, .int .i64 bx.k, .int .i64 bx.l, .string bx.n, .slice a4 ms.length cap4] (.slice a2 ms.length cap2) ms) := S10.out.kp k11 (fun g hg => by have := L4.out g hg; have := M4.out; have := M3.out; have := M2.out; omega) L2.out
  have O11 : Hid (HeldM w11 (.slice a4 ms.length cap4) 1 ms.length) := h11
  clear h11 k11 S10 O10 yc0 yc1 yc2 yc3 yc4 yc5 yc6
  have yc0 := (Rg.blk_cell S11.out.hy 0 (x := .bool bx.nl) rfl).1
  have yc1 := (Rg.blk_cell S11.out.hy 1 (x := .int .i64 bx.c) rfl).1
  have yc2 := (Rg.blk_cell S11.out.hy 2 (x := .int .i64 bx.st) rfl).1
  have yc3 := (Rg.blk_cell S11.out.hy 3 (x := .int .i64 bx.k) rfl).1
  have yc4 := (Rg.blk_cell S11.out.hy 4 (x := .int .i64 bx.l) rfl).1
  have yc5 := (Rg.blk_cell S11.out.hy 5 (x := .string bx.n) rfl).1
  have yc6 := (Rg.blk_cell S11.out.hy 6 (x := .slice a4 ms.length cap4) rfl).1
  go_wp2_with fail
  refine (heldBatch_own bx _ ms.length _ O11.out (GZ.out ())).mono ?_
  rintro e w12 ⟨rfl, b12⟩
  rw [HMK.out]
  have S12 : Hid (St w w12 x5 y5 z1 #[.bool bx.nl, .int .i64 bx.c, .int .i64 bx.st, .int .i64 bx.k, .int .i64 bx.l, .string bx.n, .slice a2 ms.length cap2] #[.bool bx.nl, .int .i64 bx.c, .int .i64 bx.st, .int .i64 bx.k, .int .i64 bx.l, .string bx.n, .slice a4 ms.length cap4] (.slice a2 ms.length cap2) ms) := S11.out.below b12
  have O12 : Hid (HeldM w12 (.slice a4 ms.length cap4) 1 ms.length) := O11.out.below b12
  clear b12 S11 O11 yc0 yc1 yc2 yc3 yc4 yc5 yc6
  go_wp2_with fail
  refine (toByteS_any _ xs _ (HR.out.below S12.out.bel) (HL.out ())).mono ?_
  rintro e w13 ⟨v13, rfl, t13, b13⟩
  have S13 : Hid (St w w13 x5 y5 z1 #[.bool bx.nl, .int .i64 bx.c, .int .i64 bx.st, .int .i64 bx.k, .int .i64 bx.l, .string bx.n, .slice a2 ms.length cap2] #[.bool bx.nl, .int .i64 bx.c, .int .i64 bx.st, .int .i64 bx.k, .int .i64 bx.l, .string bx.n, .slice a4 ms.length cap4] (.slice a2 ms.length cap2) ms) := S12.out.below b13
  have O13 : Hid (HeldM w13 (.slice a4 ms.length cap4) 1 ms.length) := O12.out.below b13
  clear b13 S12 O12
  go_wp2_with fail
  refine (HIM.out _ _ t13).mono ?_
  rintro e w14 ⟨a6, cap6, rfl, o14, b14⟩
  have b15 : Below w13.heap.size w13 (w14.alloc (.cells #[.bool bx.nl, .int .i64 bx.c, .int .i64 bx.st, .int .i64 bx.k, .int .i64 bx.l, .string bx.n, .slice a6 ms.length cap6] 60)) := b14.alloc b14.size _
  have Z15 : Hid ((w14.alloc (.cells #[.bool bx.nl, .int .i64 bx.c, .int .i64 bx.st, .int .i64 bx.k, .int .i64 bx.l, .string bx.n, .slice a6 ms.length cap6] 60)).heap[w14.heap.size]? = some (.cells #[.bool bx.nl, .int .i64 bx.c, .int .i64 bx.st, .int .i64 bx.k, .int .i64 bx.l, .string bx.n, .slice a6 ms.length cap6] 60 (0, 0)) ∧ OwnR (w14.alloc (.cells #[.bool bx.nl, .int .i64 bx.c, .int .i64 bx.st, .int .i64 bx.k, .int .i64 bx.l, .string bx.n, .slice a6 ms.length cap6] 60)) w13.heap.size (.slice a6 ms.length cap6) ms) := ⟨heap_alloc_new w14 _, o14.alloc _⟩
  have S15 : Hid (St w (w14.alloc (.cells #[.bool bx.nl, .int .i64 bx.c, .int .i64 bx.st, .int .i64 bx.k, .int .i64 bx.l, .string bx.n, .slice a6 ms.length cap6] 60)) x5 y5 z1 #[.bool bx.nl, .int .i64 bx.c, .int .i64 bx.st, .int .i64 bx.k, .int .i64 bx.l, .string bx.n, .slice a2 ms.length cap2] #[.bool bx.nl, .int .i64 bx.c, .int .i64 bx.st, .int .i64 bx.k, .int .i64 bx.l, .string bx.n, .slice a4 ms.length cap4] (.slice a2 ms.length cap2) ms) := S13.out.below b15
  have O15 : Hid (HeldM (w14.alloc (.cells #[.bool bx.nl, .int .i64 bx.c, .int .i64 bx.st, .int .i64 bx.k, .int .i64 bx.l, .string bx.n, .slice a6 ms.length cap6] 60)) (.slice a4 ms.length cap4) 1 ms.length) := O13.out.below b15
  clear b14 b15 o14 t13 S13 O13
  go_upto_region 23 with fail
  generalize w14.alloc (.cells #[.bool bx.nl, .int .i64 bx.c, .int .i64 bx.st, .int .i64 bx.k, .int .i64 bx.l, .string bx.n, .slice a6 ms.length cap6] 60) = w15 at S15 O15 Z15 ⊢
  generalize w14.heap.size = y6 at Z15 ⊢
  have xc0 := (Rg.blk_cell S15.out.hx 0 (x := .bool bx.nl) rfl).1
  have xc1 := (Rg.blk_cell S15.out.hx 1 (x := .int .i64 bx.c) rfl).1
  have xc2 := (Rg.blk_cell S15.out.hx 2 (x := .int .i64 bx.st) rfl).1
  have xc3 := (Rg.blk_cell S15.out.hx 3 (x := .int .i64 bx.k) rfl).1
  have xc4 := (Rg.blk_cell S15.out.hx 4 (x := .int .i64 bx.l) rfl).1
  have xc5 := (Rg.blk_cell S15.out.hx 5 (x := .string bx.n) rfl).1
  have xc6 := (Rg.blk_cell S15.out.hx 6 (x := .slice a2 ms.length cap2) rfl).1
  have yc0 := (Rg.blk_cell S15.out.hy 0 (x := .bool bx.nl) rfl).1
  have yc1 := (Rg.blk_cell S15.out.hy 1 (x := .int .i64 bx.c) rfl).1
  have yc2 := (Rg.blk_cell S15.out.hy 2 (x := .int .i64 bx.st) rfl).1
  have yc3 := (Rg.blk_cell S15.out.hy 3 (x := .int .i64 bx.k) rfl).1
  have yc4 := (Rg.blk_cell S15.out.hy 4 (x := .int .i64 bx.l) rfl).1
  have yc5 := (Rg.blk_cell S15.out.hy 5 (x := .string bx.n) rfl).1
  have yc6 := (Rg.blk_cell S15.out.hy 6 (x := .slice a4 ms.length cap4) rfl).1
  have zc0 := (Rg.blk_cell Z15.out.1 0 (x := .bool bx.nl) rfl).1
  have zc1 := (Rg.blk_cell Z15.out.1 1 (x := .int .i64 bx.c) rfl).1
  have zc2 := (Rg.blk_cell Z15.out.1 2 (x := .int .i64 bx.st) rfl).1
  have zc3 := (Rg.blk_cell Z15.out.1 3 (x := .int .i64 bx.k) rfl).1
  have zc4 := (Rg.blk_cell Z15.out.1 4 (x := .int .i64 bx.l) rfl).1
  have zc5 := (Rg.blk_cell Z15.out.1 5 (x := .string bx.n) rfl).1
  have zc6 := (Rg.blk_cell Z15.out.1 6 (x := .slice a6 ms.length cap6) rfl).1
  go_wp2_with fail
  refine (Hb.eq_same bx.nl bx.c bx.st bx.k bx.l bx.n _ _ ms _ Z15.out.2.row S15.out.o2.row (GZ.out ())).mono ?_
  rintro e w16 ⟨rfl, b16⟩
  have S16 : Hid (St w w16 x5 y5 z1 #[.bool bx.nl, .int .i64 bx.c, .int .i64 bx.st, .int .i64 bx.k, .int .i64 bx.l, .string bx.n, .slice a2 ms.length cap2] #[.bool bx.nl, .int .i64 bx.c, .int .i64 bx.st, .int .i64 bx.k, .int .i64 bx.l, .string bx.n, .slice a4 ms.length cap4] (.slice a2 ms.length cap2) ms) := S15.out.below b16
  have O16 : Hid (HeldM w16 (.slice a4 ms.length cap4) 1 ms.length) := O15.out.below b16
  clear b16 S15 O15 xc0 xc1 xc2 xc3 xc4 xc5 xc6 yc0 yc1 yc2 yc3 yc4 yc5 yc6 zc0 zc1 zc2 zc3 zc4 zc5 zc6 Z15
  have yc0 := (Rg.blk_cell S16.out.hy 0 (x := .bool bx.nl) rfl).1
  have yc1 := (Rg.blk_cell S16.out.hy 1 (x := .int .i64 bx.c) rfl).1
  have yc2 := (Rg.blk_cell S16.out.hy 2 (x := .int .i64 bx.st) rfl).1
  have yc3 := (Rg.blk_cell S16.out.hy 3 (x := .int .i64 bx.k) rfl).1
  have yc4 := (Rg.blk_cell S16.out.hy 4 (x := .int .i64 bx.l) rfl).1
  have yc5 := (Rg.blk_cell S16.out.hy 5 (x := .string bx.n) rfl).1
  have yc6 := (Rg.blk_cell S16.out.hy 6 (x := .slice a4 ms.length cap4) rfl).1
  go_wp2_with fail
  refine (heldBatch_own bx _ ms.length _ O16.out (GZ.out ())).mono ?_
  rintro e w17 ⟨rfl, b17⟩
  rw [HMK.out]
  have S17 : Hid (St w w17 x5 y5 z1 #[.bool bx.nl, .int .i64 bx.c, .int .i64 bx.st, .int .i64 bx.k, .int .i64 bx.l, .string bx.n, .slice a2 ms.length cap2] #[.bool bx.nl, .int .i64 bx.c, .int .i64 bx.st, .int .i64 bx.k, .int .i64 bx.l, .string bx.n, .slice a4 ms.length cap4] (.slice a2 ms.length cap2) ms) := S16.out.below b17
  have O17 : Hid (HeldM w17 (.slice a4 ms.length cap4) 1 ms.length) := O16.out.below b17
  clear b17 S16 O16 yc0 yc1 yc2 yc3 yc4 yc5 yc6
  go_wp2_with fail
  go_ret
  exact ⟨rfl, S17.out.bel⟩

/-! ### THE ROW's STEP -/
set_option maxRecDepth 100000 in
theorem lifted (os : Os) (started : os.Started) (H : Type) (enc : TypeId × Value → H) :
    ReturnsInHanded {} Try.checked os 9 .any (Rows.fnExactReadBatchSpec.pre6 enc Try.prog Try.f9 Rows.fnExactReadBatchRow.domain false) (Rows.fnExactReadBatchSpec.post enc Try.prog Try.f9 false true false false) := by
  refine returnsInHanded_of_change (C := Try.checked) own started (by kernel_rfl) Try.func9
    (ChangeSpec.witness6 (enc := enc) (C := Try.checked) false ⟨#[], #[.slice none 0 0], []⟩ 8 (by kernel_rfl) (by kernel_rfl) (by kernel_rfl) (by kernel_rfl)) ?_
  intro W base args ds gs before hval0 hW hcnd _
  have hval : ∀ (j : Nat) t v, Try.f9.params[j]? = some t → args[j]? = some v → Value.okWide Try.prog W .any base t v := hval0
  have hW' := hW
  obtain ⟨p, q, hA0, hV, rfl, hfz, hnd⟩ := hW
  have hA : DataW.TrodAll enc Try.prog W 0 (fun _ => true) true Try.f9.params.toList args.toList ds p := hA0
  rw [Try.params9] at hA hval
  obtain ⟨v0, vs0, d0, ds0, p0, q0, hargs, rfl, rfl, h0, r0⟩ := trodAll_cons hA
  obtain ⟨rfl, rfl, rfl⟩ := trodAll_nil r0
  obtain rfl : args = #[v0] := by cases args; simp_all
  obtain ⟨rfl, rfl⟩ := trodVars_none hV
  have k00 := h0
  have lt0 : ∀ x ∈ p0, x.block < W.heap.size := by obtain ⟨m, hm⟩ := k00; exact DataW.trod_lt m _ _ _ hm
  obtain ⟨xs0, w0⟩ := Op.open_bytes (hval 0 27 v0 rfl rfl) h0 (fun _ => rfl)
  clear hA0 hval0
  refine (walk v0 xs0 W w0).mono fun e W' ⟨he, bel⟩ => ?_
  subst he
  exact ⟨_, rfl, _, _, _, [], _, [], hW', trodAll_mk1 (shut_bool Try.underlying4 _), (trodAll_cons_mk (Below.trod laidOut (by kernel_rfl) (of_decide_eq_true (by kernel_rfl)) k00 bel lt0) trodAll_mk0), rfl, bel.frame _, fun h => by cases h⟩

theorem over : Rows.fnExactReadBatchRow.holds Try.pinned (OpenSpec.ofChange Rows.fnExactReadBatchSpec) :=
  OpenClaim.holds_of_wide 9 Try.f9 rfl rfl rfl rfl rfl rfl rfl ⟨rfl, rfl, rfl, rfl, rfl⟩ rfl rfl rfl rfl rfl (by kernel_rfl) Try.func9 (by kernel_rfl)
    (of_decide_eq_true (by kernel_rfl)) (by unfold Func.isWrapper; first | (rw [if_pos (by decide +kernel)]; kernel_rfl) | (rw [if_neg (by decide +kernel)]; exact ⟨rfl, rfl⟩))
    (fun os started H enc _ => lifted os started H enc)

end Go.Proofs.Ytpljjchjdejcfaa.fnExactReadBatch
namespace Go.Proofs.Ytpljjchjdejcfaa
/-- THE STATEMENT. -/
theorem fnExactReadBatch_holds : Rows.FnExactReadBatchSaid := fnExactReadBatch.over
end Go.Proofs.Ytpljjchjdejcfaa
