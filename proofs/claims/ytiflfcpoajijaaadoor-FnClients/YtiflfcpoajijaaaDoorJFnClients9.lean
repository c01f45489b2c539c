/- Texts put together: Clc, Cld, Cle, Ryr, Clg, Clh, Cli, Clj, Clk, Cls. -/
import Derived.Test.YtiflfcpoajijaaaDoorClb
import Derived.Test.YtiflfcpoajijaaaDoorJFnClients8
import Derived.BigQuiet
import Derived.Laws.StructEq
import Derived.Test.YtiflfcpoajijaaaDoorGy
import Derived.Deep.Upon
import Derived.Maps.AppendAt
import Derived.Laws.OwnMore
import Derived.Deep.RegionHeldLaw
/- Right clients: the program's ClientOK. -/
namespace Go.Proofs.YtiflfcpoajijaaaDoor.Cl
open Go.RowKit Go.Proofs.YtiflfcpoajijaaaDoor.Sl Go.Proofs.YtiflfcpoajijaaaDoor.Rg
open Go.Proofs.YtiflfcpoajijaaaDoor.Gy (Re)
open Go.Proofs.YtiflfcpoajijaaaDoor.Rk (An anV ccR ccA ccC cc_cases implCountReplies_any)
open Go.Proofs.YtiflfcpoajijaaaDoor.Rq (reqB implRequestOK_any)
open Go.Proofs.YtiflfcpoajijaaaDoor.Ry (anB answerOK_any rokB lokB implReplyOK_any)
open Go.Proofs.YtiflfcpoajijaaaDoor.Rm (inR within_any)
open Go.Proofs.YtiflfcpoajijaaaDoor.Tm (fCode fOut f_cases implFaultsOf_any)
open Go.Proofs.YtiflfcpoajijaaaDoor.Sh (KTab KTab.below)

def okA (a : An) : Bool := anB a.1 a.2.1 a.2.2.1 a.2.2.2
def acB (c : Cd) (o : Int) : Bool := decide ((c.ac.length : Int) = c.st - o) && c.ac.all okA
def zrB (c : Cd) : Bool := decide (c.rc = 0 ∧ c.rs = 0 ∧ c.rk = 0 ∧ c.rl = 0 ∧ c.rn = ⟨#[]⟩)
def asB (c : Cd) (x : Re) : Bool := decide (x.cl = c.id) && decide (x.st = c.st)
def dcB (n : Int) (c : Cd) : Bool := decide (ccC n c.id c.st c.re = 0)
def reB (n : Int) (c : Cd) : Bool := c.re.all (fun x => rokB n x && asB c x) && !(dcB n c)
def restB (c : Cd) : Bool := acB c 0 && (zrB c && decide (c.re.length = 0))
def waitB (n : Int) (c : Cd) : Bool := acB c 1 && (reqB c.rc c.rs c.rk c.rl c.rn && (decide (c.rc = c.id) && (decide (c.rs = c.st) && (decide (c.re.length ≤ 40) && reB n c))))
def rgB (n : Int) (c : Cd) : Bool := if c.bu then waitB n c else restB c
def okB (n : Int) (c : Cd) : Bool := decide (fCode n = 0) && (inR c.id 0 255 && (inR c.st 0 65535 && rgB n c))
theorem all_false {α : Type} {L : List α} {f : α → Bool} {k : Nat} {x : α} (h : L[k]? = some x) (hf : f x = false) : L.all f = false := by
  cases hh : L.all f with
  | false => rfl
  | true => rw [List.all_eq_true] at hh; rw [hh x (mem_at h)] at hf; cases hf
theorem all_true {α : Type} {L : List α} {f : α → Bool} (h : ∀ j x, j < L.length → L[j]? = some x → f x = true) : L.all f = true := by
  rw [List.all_eq_true]
  intro x hx
  obtain ⟨j, hj, e⟩ := List.mem_iff_getElem.1 hx
  exact h j x hj (by rw [List.getElem?_eq_getElem hj, e])
theorem upto {α : Type} {L : List α} {f : α → Bool} {k : Nat} {x : α} (h : ∀ j y, j < k → L[j]? = some y → f y = true) (hx : L[k]? = some x) (hf : f x = true) : ∀ j y, j < k + 1 → L[j]? = some y → f y = true := fun j y hj hy => by
  by_cases e : j = k
  · subst e; rw [hx] at hy; cases hy; exact hf
  · exact h j y (by omega) hy
theorem beqI (a b : Int) : (a == b) = decide (a = b) := rfl
theorem ret_bool {a b : Bool} (h : a = b) : Ending.returned (.bool a) = .returned (.bool b) := by rw [h]
theorem bad_any (a : An) (w : World) : Calls Tryd.prog 78 #[.agg #[.int .i64 a.1, .int .i64 a.2.1, .int .i64 a.2.2.1, .int .i64 a.2.2.2]] w fun e w' => e = .returned (.bool (!(okA a))) ∧ Below w.heap.size w w' := by
  have HA : Hid (∀ W, Calls Tryd.prog 31 #[.agg #[.int .i64 a.1, .int .i64 a.2.1, .int .i64 a.2.2.1, .int .i64 a.2.2.2]] W fun e w' => e = .returned (.bool (okA a)) ∧ Below W.heap.size W w') := fun W => answerOK_any a.1 a.2.1 a.2.2.1 a.2.2.2 W
  generalize okA a = o at HA
  go_enter Tryd.func78, Tryd.ntmps78
  go_wp2_with fail
  refine (HA.out _).mono ?_
  rintro e w2 ⟨rfl, b2⟩
  have G2 : Hid (Below w.heap.size w w2) := (bel_new w _).trans (b2.mono (by simp))
  clear b2
  go_wp2_with fail
  go_ret
  exact ⟨rfl, G2.out⟩
set_option maxRecDepth 100000 in
set_option maxHeartbeats 1600000 in
theorem indexA_any (v : Value) (xs : List An) (w : World) (h : Ga.Row w v xs) (hl : xs.length ≤ 1048576) :
    Calls Tryd.prog 83 #[v, .func (Fn.func 78) #[] #[]] w fun e w' => (∃ i : Int, e = .returned (.int .i64 i) ∧ decide (0 ≤ i) = !(xs.all okA)) ∧ Below w.heap.size w w' := by
  have HR : Hid (Ga.Row w v xs) := h
  obtain ⟨a, cap, rfl⟩ := RowG.slice h
  clear h
  obtain ⟨bb, HBB⟩ : ∃ bb, Hid (xs.all okA = bb) := ⟨_, rfl⟩
  rw [HBB.out]
  go_enter Tryd.func83, Tryd.ntmps83
  go_wp2_with fail
  go_loopw [8] (fun i wr => ∃ k : Nat, k ≤ xs.length ∧ i = .int .i64 k ∧ Hid ((∀ j x, j < k → xs[j]? = some x → okA x = true) ∧ Below w.heap.size w wr)) (fun i _ => xs.length - (intOf i).toNat)
  case atStart => exact ⟨0, by omega, rfl, ⟨fun j x hj => by omega, Below.refl _ _⟩⟩
  case round =>
    obtain ⟨k, hk, rfl, HZ⟩ := hrel
    by_cases hlt : k < xs.length
    · obtain ⟨x, hx⟩ := Rg.get_at hlt
      obtain ⟨b, off, rfl, hbl, c0, c1, c2, c3⟩ := RowG.at (HR.out.below HZ.out.2) rfl hx
      have HB := bad_any x wr
      have HX : Hid (xs[k]? = some x) := hx
      clear hx
      cases hgood : okA x with
      | true =>
        have HU : Hid (∀ j x, j < k + 1 → xs[j]? = some x → okA x = true) := upto HZ.out.1 HX.out hgood
        rw [hgood] at HB
        clear hgood
        go_wp2_with fail
        refine HB.mono ?_
        rintro e w2 ⟨rfl, b2⟩
        have G2 : Hid (Below w.heap.size w w2) := HZ.out.2.trans (b2.mono HZ.out.2.size)
        clear b2 HB
        go_wp2_with fail
        exact ⟨⟨k + 1, by omega, by go_num, ⟨HU.out, G2.out⟩⟩, by simp [intOf]; omega⟩
      | false =>
        have HF : Hid (bb = false) := by show _ = _; rw [← HBB.out]; exact all_false HX.out hgood
        rw [hgood] at HB
        clear hgood
        go_wp2_with fail
        refine HB.mono ?_
        rintro e w2 ⟨rfl, b2⟩
        have G2 : Hid (Below w.heap.size w w2) := HZ.out.2.trans (b2.mono HZ.out.2.size)
        clear b2 HB
        go_wp2_with fail
        go_ret
        exact ⟨⟨_, rfl, by rw [HF.out]; simp⟩, G2.out⟩
    · obtain rfl : k = xs.length := by omega
      have HT : Hid (bb = true) := by show _ = _; rw [← HBB.out]; exact all_true HZ.out.1
      go_wp2_with fail
      go_ret
      exact ⟨⟨_, rfl, by rw [HT.out]; rfl⟩, HZ.out.2⟩
set_option maxRecDepth 100000 in
set_option maxHeartbeats 1600000 in
theorem containsA_any (v : Value) (xs : List An) (w : World) (h : Ga.Row w v xs) (hl : xs.length ≤ 1048576) :
    Calls Tryd.prog 77 #[v, .func (Fn.func 78) #[] #[]] w fun e w' => e = .returned (.bool (!(xs.all okA))) ∧ Below w.heap.size w w' := by
  have HI := indexA_any v xs w h hl
  clear h
  generalize xs.all okA = bb at HI
  go_enter Tryd.func77, Tryd.ntmps77
  go_wp2_with fail
  refine HI.mono ?_
  rintro e w2 ⟨⟨i, rfl, hi⟩, b2⟩
  cases bb with
  | false =>
    have hi0 : (0 : Int) ≤ i := by simpa using hi
    have B2 : Hid (Below w.heap.size w w2) := b2
    clear hi b2 HI
    go_wp2_with fail
    go_ret
    exact ⟨rfl, B2.out⟩
  | true =>
    have HD : Hid (decide ((0 : Int) ≤ i) = false) := hi
    have hi0 : ¬ (0 : Int) ≤ i := by simpa using hi
    have B2 : Hid (Below w.heap.size w w2) := b2
    clear hi b2 HI
    go_wp2_with fail
    go_ret
    exact ⟨by show Ending.returned (.bool (decide ((0 : Int) ≤ i))) = _; rw [HD.out]; rfl, B2.out⟩
set_option maxRecDepth 100000 in
set_option maxHeartbeats 1600000 in
theorem acceptedOK_any (c : Cd) (vr va : Value) (o : Int) (w : World) (h : Has w c vr va) (hl : c.ac.length ≤ 1048576) (hs0 : 0 ≤ c.st) (hs1 : c.st ≤ 65535) (ho0 : 0 ≤ o) (ho1 : o ≤ 1) :
    Calls Tryd.prog 74 #[clV c vr va, .int .i64 o] w fun e w' => e = .returned (.bool (acB c o)) ∧ Below w.heap.size w w' := by
  have HC : Hid (∀ W, Below w.heap.size w W → Ga.Row W va c.ac) := fun W hW => h.2.below hW
  obtain ⟨ar, kr, rfl⟩ := RowG.slice h.1
  obtain ⟨aa, ka, rfl⟩ := RowG.slice h.2
  clear h
  have HX : Hid (∀ W, Below (w.alloc (.cells #[.int .i64 c.id, .int .i64 c.st, .bool c.bu, .int .i64 c.rc, .int .i64 c.rs, .int .i64 c.rk, .int .i64 c.rl, .string c.rn, .slice ar c.re.length kr, .slice aa c.ac.length ka] 28)).heap.size (w.alloc (.cells #[.int .i64 c.id, .int .i64 c.st, .bool c.bu, .int .i64 c.rc, .int .i64 c.rs, .int .i64 c.rk, .int .i64 c.rl, .string c.rn, .slice ar c.re.length kr, .slice aa c.ac.length ka] 28)) W → (W.cell? ⟨w.heap.size, 0, none⟩ = some (.int .i64 c.id) ∧ W.cell? ⟨w.heap.size, 1, none⟩ = some (.int .i64 c.st) ∧ W.cell? ⟨w.heap.size, 2, none⟩ = some (.bool c.bu) ∧ W.cell? ⟨w.heap.size, 3, none⟩ = some (.int .i64 c.rc) ∧ W.cell? ⟨w.heap.size, 4, none⟩ = some (.int .i64 c.rs) ∧ W.cell? ⟨w.heap.size, 5, none⟩ = some (.int .i64 c.rk) ∧ W.cell? ⟨w.heap.size, 6, none⟩ = some (.int .i64 c.rl) ∧ W.cell? ⟨w.heap.size, 7, none⟩ = some (.string c.rn) ∧ W.cell? ⟨w.heap.size, 8, none⟩ = some (.slice ar c.re.length kr) ∧ W.cell? ⟨w.heap.size, 9, none⟩ = some (.slice aa c.ac.length ka)) ∧ Below w.heap.size w W) := fun W hW => by
    have h1 := (hW.block w.heap.size (by simp)).trans (heap_alloc_new w _)
    exact ⟨⟨(Rg.blk_cell h1 0 rfl).1, (Rg.blk_cell h1 1 rfl).1, (Rg.blk_cell h1 2 rfl).1, (Rg.blk_cell h1 3 rfl).1, (Rg.blk_cell h1 4 rfl).1, (Rg.blk_cell h1 5 rfl).1, (Rg.blk_cell h1 6 rfl).1, (Rg.blk_cell h1 7 rfl).1, (Rg.blk_cell h1 8 rfl).1, (Rg.blk_cell h1 9 rfl).1⟩, (bel_new w _).trans (hW.mono (by simp))⟩
  have HA : Hid (acB c o = (decide ((c.ac.length : Int) = c.st - o) && c.ac.all okA)) := rfl
  rw [HA.out]
  unfold clV
  cases hd : decide ((c.ac.length : Int) = c.st - o) with
  | true =>
    have e1 : ((c.ac.length : Int) == c.st - o) = true := by simpa using hd
    have e2 : decide ((c.ac.length : Int) = c.st - o) = true := by exact hd
    clear hd
    go_enter Tryd.func74, Tryd.ntmps74
    go_upto_region 1 with fail
    generalize w.alloc (.cells #[.int .i64 c.id, .int .i64 c.st, .bool c.bu, .int .i64 c.rc, .int .i64 c.rs, .int .i64 c.rk, .int .i64 c.rl, .string c.rn, .slice ar c.re.length kr, .slice aa c.ac.length ka] 28) = wb at HX ⊢
    obtain ⟨⟨c0, c1, c2, c3, c4, c5, c6, c7, c8, c9⟩, g0⟩ := HX.out wb (Below.refl _ _)
    have HK := containsA_any _ c.ac wb (HC.out _ g0) hl
    have G0 : Hid (Below w.heap.size w wb) := g0
    clear g0
    go_wp2_with fail
    refine HK.mono ?_
    rintro e w2 ⟨rfl, b2⟩
    have G2 : Hid (Below w.heap.size w w2) := G0.out.trans (b2.mono G0.out.size)
    clear b2 HK HX c0 c1 c2 c3 c4 c5 c6 c7 c8 c9
    go_wp2_with fail
    go_ret
    exact ⟨ret_bool (by simp), G2.out⟩
  | false =>
    have e1 : ((c.ac.length : Int) == c.st - o) = false := by simpa using hd
    have e2 : decide ((c.ac.length : Int) = c.st - o) = false := by exact hd
    clear hd
    go_enter Tryd.func74, Tryd.ntmps74
    go_upto_region 1 with fail
    generalize w.alloc (.cells #[.int .i64 c.id, .int .i64 c.st, .bool c.bu, .int .i64 c.rc, .int .i64 c.rs, .int .i64 c.rk, .int .i64 c.rl, .string c.rn, .slice ar c.re.length kr, .slice aa c.ac.length ka] 28) = wb at HX ⊢
    obtain ⟨⟨c0, c1, c2, c3, c4, c5, c6, c7, c8, c9⟩, g0⟩ := HX.out wb (Below.refl _ _)
    go_wp2_with fail
    go_ret
    exact ⟨rfl, g0⟩
end Go.Proofs.YtiflfcpoajijaaaDoor.Cl

/- Right clients: what they wait for, the two states, ClientOK of the program. -/
namespace Go.Proofs.YtiflfcpoajijaaaDoor.Cl
open Go.RowKit Go.Proofs.YtiflfcpoajijaaaDoor.Sl Go.Proofs.YtiflfcpoajijaaaDoor.Rg
open Go.Proofs.YtiflfcpoajijaaaDoor.Gy (Re)
open Go.Proofs.YtiflfcpoajijaaaDoor.Rk (An anV ccR ccA ccC cc_cases implCountReplies_any)
open Go.Proofs.YtiflfcpoajijaaaDoor.Rq (reqB implRequestOK_any)
open Go.Proofs.YtiflfcpoajijaaaDoor.Ry (anB answerOK_any rokB lokB implReplyOK_any)
open Go.Proofs.YtiflfcpoajijaaaDoor.Rm (inR within_any)
open Go.Proofs.YtiflfcpoajijaaaDoor.Tm (fCode fOut f_cases implFaultsOf_any)
open Go.Proofs.YtiflfcpoajijaaaDoor.Sh (KTab KTab.below)

set_option maxRecDepth 100000 in
set_option maxHeartbeats 1600000 in
theorem asked_any (c : Cd) (vr va : Value) (x : Re) (w : World) (h : Has w c vr va) :
    Calls Tryd.prog 71 #[clV c vr va, Gy.oneV x] w fun e w' => e = .returned (.bool (asB c x)) ∧ Below w.heap.size w w' := by
  obtain ⟨ar, kr, rfl⟩ := RowG.slice h.1
  obtain ⟨aa, ka, rfl⟩ := RowG.slice h.2
  clear h
  have HX : Hid (∀ W, Below ((w.alloc (.cells #[.int .i64 c.id, .int .i64 c.st, .bool c.bu, .int .i64 c.rc, .int .i64 c.rs, .int .i64 c.rk, .int .i64 c.rl, .string c.rn, .slice ar c.re.length kr, .slice aa c.ac.length ka] 70)).alloc (.cells #[.int .i64 x.nd, .int .i64 x.cl, .int .i64 x.st, .int .i64 x.kd, .int .i64 x.tk, .int .i64 x.hd, .int .i64 x.ex, .string x.mc] 39)).heap.size ((w.alloc (.cells #[.int .i64 c.id, .int .i64 c.st, .bool c.bu, .int .i64 c.rc, .int .i64 c.rs, .int .i64 c.rk, .int .i64 c.rl, .string c.rn, .slice ar c.re.length kr, .slice aa c.ac.length ka] 70)).alloc (.cells #[.int .i64 x.nd, .int .i64 x.cl, .int .i64 x.st, .int .i64 x.kd, .int .i64 x.tk, .int .i64 x.hd, .int .i64 x.ex, .string x.mc] 39)) W → ((W.cell? ⟨w.heap.size, 0, none⟩ = some (.int .i64 c.id) ∧ W.cell? ⟨w.heap.size, 1, none⟩ = some (.int .i64 c.st) ∧ W.cell? ⟨w.heap.size, 2, none⟩ = some (.bool c.bu) ∧ W.cell? ⟨w.heap.size, 3, none⟩ = some (.int .i64 c.rc) ∧ W.cell? ⟨w.heap.size, 4, none⟩ = some (.int .i64 c.rs) ∧ W.cell? ⟨w.heap.size, 5, none⟩ = some (.int .i64 c.rk) ∧ W.cell? ⟨w.heap.size, 6, none⟩ = some (.int .i64 c.rl) ∧ W.cell? ⟨w.heap.size, 7, none⟩ = some (.string c.rn) ∧ W.cell? ⟨w.heap.size, 8, none⟩ = some (.slice ar c.re.length kr) ∧ W.cell? ⟨w.heap.size, 9, none⟩ = some (.slice aa c.ac.length ka)) ∧ (W.cell? ⟨w.heap.size + 1, 0, none⟩ = some (.int .i64 x.nd) ∧ W.cell? ⟨w.heap.size + 1, 1, none⟩ = some (.int .i64 x.cl) ∧ W.cell? ⟨w.heap.size + 1, 2, none⟩ = some (.int .i64 x.st) ∧ W.cell? ⟨w.heap.size + 1, 3, none⟩ = some (.int .i64 x.kd) ∧ W.cell? ⟨w.heap.size + 1, 4, none⟩ = some (.int .i64 x.tk) ∧ W.cell? ⟨w.heap.size + 1, 5, none⟩ = some (.int .i64 x.hd) ∧ W.cell? ⟨w.heap.size + 1, 6, none⟩ = some (.int .i64 x.ex) ∧ W.cell? ⟨w.heap.size + 1, 7, none⟩ = some (.string x.mc))) ∧ Below w.heap.size w W) := fun W hW => by
    obtain ⟨h1, h2, h3⟩ := Gy.two hW
    exact ⟨⟨⟨(Rg.blk_cell h1 0 rfl).1, (Rg.blk_cell h1 1 rfl).1, (Rg.blk_cell h1 2 rfl).1, (Rg.blk_cell h1 3 rfl).1, (Rg.blk_cell h1 4 rfl).1, (Rg.blk_cell h1 5 rfl).1, (Rg.blk_cell h1 6 rfl).1, (Rg.blk_cell h1 7 rfl).1, (Rg.blk_cell h1 8 rfl).1, (Rg.blk_cell h1 9 rfl).1⟩, ⟨(Rg.blk_cell h2 0 rfl).1, (Rg.blk_cell h2 1 rfl).1, (Rg.blk_cell h2 2 rfl).1, (Rg.blk_cell h2 3 rfl).1, (Rg.blk_cell h2 4 rfl).1, (Rg.blk_cell h2 5 rfl).1, (Rg.blk_cell h2 6 rfl).1, (Rg.blk_cell h2 7 rfl).1⟩⟩, h3⟩
  have HA : Hid (asB c x = (decide (x.cl = c.id) && decide (x.st = c.st))) := rfl
  rw [HA.out]
  unfold clV Gy.oneV
  cases hd : decide (x.cl = c.id) with
  | true =>
    have e1 : (x.cl == c.id) = true := by simpa using hd
    clear hd
    go_enter Tryd.func71, Tryd.ntmps71
    go_upto_region 1 with fail
    generalize ((w.alloc (.cells #[.int .i64 c.id, .int .i64 c.st, .bool c.bu, .int .i64 c.rc, .int .i64 c.rs, .int .i64 c.rk, .int .i64 c.rl, .string c.rn, .slice ar c.re.length kr, .slice aa c.ac.length ka] 70)).alloc (.cells #[.int .i64 x.nd, .int .i64 x.cl, .int .i64 x.st, .int .i64 x.kd, .int .i64 x.tk, .int .i64 x.hd, .int .i64 x.ex, .string x.mc] 39)) = wb at HX ⊢
    obtain ⟨⟨⟨c0, c1, c2, c3, c4, c5, c6, c7, c8, c9⟩, ⟨e0, e1, e2, e3, e4, e5, e6, e7⟩⟩, g0⟩ := HX.out wb (Below.refl _ _)
    clear HX
    go_wp2_with fail
    go_ret
    exact ⟨ret_bool (by rw [Bool.true_and]; exact beqI _ _), g0⟩
  | false =>
    have e1 : (x.cl == c.id) = false := by simpa using hd
    clear hd
    go_enter Tryd.func71, Tryd.ntmps71
    go_upto_region 1 with fail
    generalize ((w.alloc (.cells #[.int .i64 c.id, .int .i64 c.st, .bool c.bu, .int .i64 c.rc, .int .i64 c.rs, .int .i64 c.rk, .int .i64 c.rl, .string c.rn, .slice ar c.re.length kr, .slice aa c.ac.length ka] 70)).alloc (.cells #[.int .i64 x.nd, .int .i64 x.cl, .int .i64 x.st, .int .i64 x.kd, .int .i64 x.tk, .int .i64 x.hd, .int .i64 x.ex, .string x.mc] 39)) = wb at HX ⊢
    obtain ⟨⟨⟨c0, c1, c2, c3, c4, c5, c6, c7, c8, c9⟩, ⟨e0, e1, e2, e3, e4, e5, e6, e7⟩⟩, g0⟩ := HX.out wb (Below.refl _ _)
    clear HX
    go_wp2_with fail
    go_ret
    exact ⟨rfl, g0⟩
set_option maxRecDepth 100000 in
set_option maxHeartbeats 1600000 in
theorem decision_any (n : Int) (c : Cd) (vr va : Value) (w : World) (h : Has w c vr va) (hl : c.re.length ≤ 1048576) (hK : KTab w) (hp : 0 < w.heap.size) :
    Calls Tryd.prog 72 #[clV c vr va, .int .i64 n] w fun e w' => e = .returned (.tuple #[anV (ccA n c.id c.st c.re), .bool (dcB n c)]) ∧ Below w.heap.size w w' := by
  have HR : Hid (∀ W, Below w.heap.size w W → Gy.Row W vr c.re ∧ KTab W ∧ 0 < W.heap.size) := fun W hW => ⟨h.1.below hW, hK.below hW hp, Nat.lt_of_lt_of_le hp hW.size⟩
  obtain ⟨ar, kr, rfl⟩ := RowG.slice h.1
  obtain ⟨aa, ka, rfl⟩ := RowG.slice h.2
  clear h hK hp
  have HX : Hid (∀ W, Below ((w.alloc (.cells #[.int .i64 c.id, .int .i64 c.st, .bool c.bu, .int .i64 c.rc, .int .i64 c.rs, .int .i64 c.rk, .int .i64 c.rl, .string c.rn, .slice ar c.re.length kr, .slice aa c.ac.length ka] 70)).alloc (.cells #[.int .i64 0, .int .i64 0, .int .i64 0, .int .i64 0] 35)).heap.size ((w.alloc (.cells #[.int .i64 c.id, .int .i64 c.st, .bool c.bu, .int .i64 c.rc, .int .i64 c.rs, .int .i64 c.rk, .int .i64 c.rl, .string c.rn, .slice ar c.re.length kr, .slice aa c.ac.length ka] 70)).alloc (.cells #[.int .i64 0, .int .i64 0, .int .i64 0, .int .i64 0] 35)) W → ((W.cell? ⟨w.heap.size, 0, none⟩ = some (.int .i64 c.id) ∧ W.cell? ⟨w.heap.size, 1, none⟩ = some (.int .i64 c.st) ∧ W.cell? ⟨w.heap.size, 2, none⟩ = some (.bool c.bu) ∧ W.cell? ⟨w.heap.size, 3, none⟩ = some (.int .i64 c.rc) ∧ W.cell? ⟨w.heap.size, 4, none⟩ = some (.int .i64 c.rs) ∧ W.cell? ⟨w.heap.size, 5, none⟩ = some (.int .i64 c.rk) ∧ W.cell? ⟨w.heap.size, 6, none⟩ = some (.int .i64 c.rl) ∧ W.cell? ⟨w.heap.size, 7, none⟩ = some (.string c.rn) ∧ W.cell? ⟨w.heap.size, 8, none⟩ = some (.slice ar c.re.length kr) ∧ W.cell? ⟨w.heap.size, 9, none⟩ = some (.slice aa c.ac.length ka)) ∧ W.heap[w.heap.size + 1]? = some (.cells #[.int .i64 0, .int .i64 0, .int .i64 0, .int .i64 0] 35)) ∧ Below w.heap.size w W) := fun W hW => by
    obtain ⟨h1, h2, h3⟩ := Gy.two hW
    exact ⟨⟨⟨(Rg.blk_cell h1 0 rfl).1, (Rg.blk_cell h1 1 rfl).1, (Rg.blk_cell h1 2 rfl).1, (Rg.blk_cell h1 3 rfl).1, (Rg.blk_cell h1 4 rfl).1, (Rg.blk_cell h1 5 rfl).1, (Rg.blk_cell h1 6 rfl).1, (Rg.blk_cell h1 7 rfl).1, (Rg.blk_cell h1 8 rfl).1, (Rg.blk_cell h1 9 rfl).1⟩, h2⟩, h3⟩
  have HD : Hid (dcB n c = decide (ccC n c.id c.st c.re = 0)) := rfl
  rw [HD.out]
  have HK0 : Hid (∀ W, Below w.heap.size w W → Calls Tryd.prog 76 #[.int .i64 n, .int .i64 c.id, .int .i64 c.st, .slice ar c.re.length kr] W fun e w' => e = .returned (.tuple #[anV (ccA n c.id c.st c.re), .int .i64 (ccC n c.id c.st c.re)]) ∧ Below W.heap.size W w') := fun W hW => implCountReplies_any n c.id c.st _ c.re W (HR.out _ hW).1 hl (HR.out _ hW).2.1 (HR.out _ hW).2.2
  clear HD HR
  generalize ccA n c.id c.st c.re = A at HK0 ⊢
  generalize ccC n c.id c.st c.re = k at HK0 ⊢
  unfold anV at HK0 ⊢
  unfold clV
  go_enter Tryd.func72, Tryd.ntmps72
  go_upto_region 1 with fail
  generalize ((w.alloc (.cells #[.int .i64 c.id, .int .i64 c.st, .bool c.bu, .int .i64 c.rc, .int .i64 c.rs, .int .i64 c.rk, .int .i64 c.rl, .string c.rn, .slice ar c.re.length kr, .slice aa c.ac.length ka] 70)).alloc (.cells #[.int .i64 0, .int .i64 0, .int .i64 0, .int .i64 0] 35)) = wb at HX ⊢
  obtain ⟨⟨⟨c0, c1, c2, c3, c4, c5, c6, c7, c8, c9⟩, _⟩, g0⟩ := HX.out wb (Below.refl _ _)
  have HK := HK0.out _ g0
  clear g0 HK0
  go_wp2_with fail
  refine HK.mono ?_
  rintro e w2 ⟨rfl, b2⟩
  have B2 : Hid (Below wb.heap.size wb w2) := b2
  clear b2 HK c0 c1 c2 c3 c4 c5 c6 c7 c8 c9
  have HY : Hid ((w2.alloc (.cells #[.int .i64 A.1, .int .i64 A.2.1, .int .i64 A.2.2.1, .int .i64 A.2.2.2] 35)).heap[w.heap.size + 1]? = some (.cells #[.int .i64 0, .int .i64 0, .int .i64 0, .int .i64 0] 35) ∧ (w2.alloc (.cells #[.int .i64 A.1, .int .i64 A.2.1, .int .i64 A.2.2.1, .int .i64 A.2.2.2] 35)).heap[w2.heap.size]? = some (.cells #[.int .i64 A.1, .int .i64 A.2.1, .int .i64 A.2.2.1, .int .i64 A.2.2.2] 35) ∧ Below w.heap.size w (w2.alloc (.cells #[.int .i64 A.1, .int .i64 A.2.1, .int .i64 A.2.2.1, .int .i64 A.2.2.2] 35))) := by
    obtain ⟨⟨_, h2⟩, h3⟩ := HX.out _ (B2.out.trans ((bel_new w2 (.cells #[.int .i64 A.1, .int .i64 A.2.1, .int .i64 A.2.2.1, .int .i64 A.2.2.2] 35)).mono B2.out.size))
    exact ⟨h2, heap_alloc_new _ _, h3⟩
  clear HX B2
  go_upto_region 2 with fail
  generalize w2.alloc (.cells #[.int .i64 A.1, .int .i64 A.2.1, .int .i64 A.2.2.1, .int .i64 A.2.2.2] 35) = w3 at HY ⊢
  generalize w2.heap.size = b3 at HY ⊢
  obtain ⟨k0, _⟩ := Rg.blk_cell HY.out.2.1 0 (x := .int .i64 A.1) rfl
  obtain ⟨k1, _⟩ := Rg.blk_cell HY.out.2.1 1 (x := .int .i64 A.2.1) rfl
  obtain ⟨k2, _⟩ := Rg.blk_cell HY.out.2.1 2 (x := .int .i64 A.2.2.1) rfl
  obtain ⟨k3, _⟩ := Rg.blk_cell HY.out.2.1 3 (x := .int .i64 A.2.2.2) rfl
  obtain ⟨m0, n0⟩ := Rg.blk_cell HY.out.1 0 (x := .int .i64 0) rfl
  obtain ⟨m1, n1⟩ := Rg.blk_cell HY.out.1 1 (x := .int .i64 0) rfl
  obtain ⟨m2, n2⟩ := Rg.blk_cell HY.out.1 2 (x := .int .i64 0) rfl
  obtain ⟨m3, n3⟩ := Rg.blk_cell HY.out.1 3 (x := .int .i64 0) rfl
  have AF : ((((w3.setCell ⟨w.heap.size + 1, 0, none⟩ (.int .i64 A.1)).setCell ⟨w.heap.size + 1, 1, none⟩ (.int .i64 A.2.1)).setCell ⟨w.heap.size + 1, 2, none⟩ (.int .i64 A.2.2.1)).setCell ⟨w.heap.size + 1, 3, none⟩ (.int .i64 A.2.2.2)).heap[w.heap.size + 1]? = some (.cells #[.int .i64 A.1, .int .i64 A.2.1, .int .i64 A.2.2.1, .int .i64 A.2.2.2] 35 (0, 0)) := (Rg.blk_set (Rg.blk_set (Rg.blk_set (Rg.blk_set HY.out.1 0 (.int .i64 A.1)) 1 (.int .i64 A.2.1)) 2 (.int .i64 A.2.2.1)) 3 (.int .i64 A.2.2.2))
  have GF : Below w.heap.size w ((((w3.setCell ⟨w.heap.size + 1, 0, none⟩ (.int .i64 A.1)).setCell ⟨w.heap.size + 1, 1, none⟩ (.int .i64 A.2.1)).setCell ⟨w.heap.size + 1, 2, none⟩ (.int .i64 A.2.2.1)).setCell ⟨w.heap.size + 1, 3, none⟩ (.int .i64 A.2.2.2)) := Below.setCell (Below.setCell (Below.setCell (Below.setCell HY.out.2.2 (p := ⟨w.heap.size + 1, 0, none⟩) (by simp <;> omega) (.int .i64 A.1)) (p := ⟨w.heap.size + 1, 1, none⟩) (by simp <;> omega) (.int .i64 A.2.1)) (p := ⟨w.heap.size + 1, 2, none⟩) (by simp <;> omega) (.int .i64 A.2.2.1)) (p := ⟨w.heap.size + 1, 3, none⟩) (by simp <;> omega) (.int .i64 A.2.2.2)
  go_wp2_with fail
  generalize ((((w3.setCell ⟨w.heap.size + 1, 0, none⟩ (.int .i64 A.1)).setCell ⟨w.heap.size + 1, 1, none⟩ (.int .i64 A.2.1)).setCell ⟨w.heap.size + 1, 2, none⟩ (.int .i64 A.2.2.1)).setCell ⟨w.heap.size + 1, 3, none⟩ (.int .i64 A.2.2.2)) = wf at AF GF ⊢
  have d0 := (Rg.blk_cell AF 0 (x := .int .i64 A.1) rfl).1
  have d1 := (Rg.blk_cell AF 1 (x := .int .i64 A.2.1) rfl).1
  have d2 := (Rg.blk_cell AF 2 (x := .int .i64 A.2.2.1) rfl).1
  have d3 := (Rg.blk_cell AF 3 (x := .int .i64 A.2.2.2) rfl).1
  exact bodyPost_ret (v := .tuple #[.agg #[.int .i64 A.1, .int .i64 A.2.1, .int .i64 A.2.2.1, .int .i64 A.2.2.2], .bool (k == 0)]) (by simp [results, Tryd.results72, go_sem, d0, d1, d2, d3]) rfl ⟨rfl, GF⟩
set_option maxRecDepth 100000 in
set_option maxHeartbeats 1600000 in
theorem repliesOK_any (n : Int) (c : Cd) (vr va : Value) (w : World) (h : Has w c vr va) (hl : c.re.length ≤ 1048576) (hK : KTab w) (hp : 0 < w.heap.size) :
    Calls Tryd.prog 69 #[clV c vr va, .int .i64 n] w fun e w' => e = .returned (.bool (reB n c)) ∧ Below w.heap.size w w' := by
  have HR : Hid (∀ W, Below w.heap.size w W → Has W c vr va ∧ KTab W ∧ 0 < W.heap.size) := fun W hW => ⟨h.below hW, hK.below hW hp, Nat.lt_of_lt_of_le hp hW.size⟩
  obtain ⟨ar, kr, rfl⟩ := RowG.slice h.1
  obtain ⟨aa, ka, rfl⟩ := RowG.slice h.2
  clear h hK hp
  have HX : Hid (∀ W, Below (w.alloc (.cells #[.int .i64 c.id, .int .i64 c.st, .bool c.bu, .int .i64 c.rc, .int .i64 c.rs, .int .i64 c.rk, .int .i64 c.rl, .string c.rn, .slice ar c.re.length kr, .slice aa c.ac.length ka] 70)).heap.size (w.alloc (.cells #[.int .i64 c.id, .int .i64 c.st, .bool c.bu, .int .i64 c.rc, .int .i64 c.rs, .int .i64 c.rk, .int .i64 c.rl, .string c.rn, .slice ar c.re.length kr, .slice aa c.ac.length ka] 70)) W → (W.cell? ⟨w.heap.size, 0, none⟩ = some (.int .i64 c.id) ∧ W.cell? ⟨w.heap.size, 1, none⟩ = some (.int .i64 c.st) ∧ W.cell? ⟨w.heap.size, 2, none⟩ = some (.bool c.bu) ∧ W.cell? ⟨w.heap.size, 3, none⟩ = some (.int .i64 c.rc) ∧ W.cell? ⟨w.heap.size, 4, none⟩ = some (.int .i64 c.rs) ∧ W.cell? ⟨w.heap.size, 5, none⟩ = some (.int .i64 c.rk) ∧ W.cell? ⟨w.heap.size, 6, none⟩ = some (.int .i64 c.rl) ∧ W.cell? ⟨w.heap.size, 7, none⟩ = some (.string c.rn) ∧ W.cell? ⟨w.heap.size, 8, none⟩ = some (.slice ar c.re.length kr) ∧ W.cell? ⟨w.heap.size, 9, none⟩ = some (.slice aa c.ac.length ka)) ∧ Below w.heap.size w W) := fun W hW => by
    have h1 := (hW.block w.heap.size (by simp)).trans (heap_alloc_new w _)
    exact ⟨⟨(Rg.blk_cell h1 0 rfl).1, (Rg.blk_cell h1 1 rfl).1, (Rg.blk_cell h1 2 rfl).1, (Rg.blk_cell h1 3 rfl).1, (Rg.blk_cell h1 4 rfl).1, (Rg.blk_cell h1 5 rfl).1, (Rg.blk_cell h1 6 rfl).1, (Rg.blk_cell h1 7 rfl).1, (Rg.blk_cell h1 8 rfl).1, (Rg.blk_cell h1 9 rfl).1⟩, (bel_new w _).trans (hW.mono (by simp))⟩
  have HA : Hid (reB n c = (c.re.all (fun x => rokB n x && asB c x) && !(dcB n c))) := rfl
  have HAS : Hid (∀ (x : Re) (W : World), Below w.heap.size w W → Calls Tryd.prog 71 #[.agg #[.int .i64 c.id, .int .i64 c.st, .bool c.bu, .int .i64 c.rc, .int .i64 c.rs, .int .i64 c.rk, .int .i64 c.rl, .string c.rn, .slice ar c.re.length kr, .slice aa c.ac.length ka], Gy.oneV x] W fun e w' => e = .returned (.bool (asB c x)) ∧ Below W.heap.size W w') := fun x W hW => asked_any c _ _ x W (HR.out W hW).1
  have HDE : Hid (∀ (W : World), Below w.heap.size w W → Calls Tryd.prog 72 #[.agg #[.int .i64 c.id, .int .i64 c.st, .bool c.bu, .int .i64 c.rc, .int .i64 c.rs, .int .i64 c.rk, .int .i64 c.rl, .string c.rn, .slice ar c.re.length kr, .slice aa c.ac.length ka], .int .i64 n] W fun e w' => e = .returned (.tuple #[anV (ccA n c.id c.st c.re), .bool (dcB n c)]) ∧ Below W.heap.size W w') := fun W hW => decision_any n c _ _ W (HR.out W hW).1 hl (HR.out W hW).2.1 (HR.out W hW).2.2
  unfold clV
  go_enter Tryd.func69, Tryd.ntmps69
  go_upto_region 1 with fail
  generalize w.alloc (.cells #[.int .i64 c.id, .int .i64 c.st, .bool c.bu, .int .i64 c.rc, .int .i64 c.rs, .int .i64 c.rk, .int .i64 c.rl, .string c.rn, .slice ar c.re.length kr, .slice aa c.ac.length ka] 70) = wb at HX ⊢
  obtain ⟨⟨c0, c1, c2, c3, c4, c5, c6, c7, c8, c9⟩, g0⟩ := HX.out wb (Below.refl _ _)
  have G0 : Hid (Below w.heap.size w wb) := g0
  clear g0
  go_wp2_with fail
  clear c0 c1 c2 c3 c4 c5 c6 c7 c8 c9
  go_loopw [13] (fun i wr => ∃ k : Nat, k ≤ c.re.length ∧ i = .int .i64 k ∧ Hid ((∀ j x, j < k → c.re[j]? = some x → (rokB n x && asB c x) = true) ∧ Below wb.heap.size wb wr)) (fun i _ => c.re.length - (intOf i).toNat)
  case atStart => exact ⟨0, by omega, rfl, ⟨fun j x hj => by omega, Below.refl _ _⟩⟩
  case round =>
    obtain ⟨k, hk, rfl, HZ⟩ := hrel
    by_cases hlt : k < c.re.length
    · obtain ⟨x, hx⟩ := Rg.get_at hlt
      obtain ⟨b, off, rfl, hbl, e0, e1, e2, e3, e4, e5, e6, e7⟩ := RowG.at (HR.out wr (HX.out wr HZ.out.2).2).1.1 rfl hx
      have HK : Hid (c.re[k]? = some x) := hx
      clear hx
      have HB : Hid (∀ W, Below (wr.alloc (.cells #[.int .i64 x.nd, .int .i64 x.cl, .int .i64 x.st, .int .i64 x.kd, .int .i64 x.tk, .int .i64 x.hd, .int .i64 x.ex, .string x.mc] 39)).heap.size (wr.alloc (.cells #[.int .i64 x.nd, .int .i64 x.cl, .int .i64 x.st, .int .i64 x.kd, .int .i64 x.tk, .int .i64 x.hd, .int .i64 x.ex, .string x.mc] 39)) W → ((W.cell? ⟨wr.heap.size, 0, none⟩ = some (.int .i64 x.nd) ∧ W.cell? ⟨wr.heap.size, 1, none⟩ = some (.int .i64 x.cl) ∧ W.cell? ⟨wr.heap.size, 2, none⟩ = some (.int .i64 x.st) ∧ W.cell? ⟨wr.heap.size, 3, none⟩ = some (.int .i64 x.kd) ∧ W.cell? ⟨wr.heap.size, 4, none⟩ = some (.int .i64 x.tk) ∧ W.cell? ⟨wr.heap.size, 5, none⟩ = some (.int .i64 x.hd) ∧ W.cell? ⟨wr.heap.size, 6, none⟩ = some (.int .i64 x.ex) ∧ W.cell? ⟨wr.heap.size, 7, none⟩ = some (.string x.mc)) ∧ Below wb.heap.size wb W)) := fun W hW => by
        have h1 := (hW.block wr.heap.size (by simp)).trans (heap_alloc_new wr _)
        exact ⟨⟨(Rg.blk_cell h1 0 rfl).1, (Rg.blk_cell h1 1 rfl).1, (Rg.blk_cell h1 2 rfl).1, (Rg.blk_cell h1 3 rfl).1, (Rg.blk_cell h1 4 rfl).1, (Rg.blk_cell h1 5 rfl).1, (Rg.blk_cell h1 6 rfl).1, (Rg.blk_cell h1 7 rfl).1⟩, HZ.out.2.trans (((bel_new wr _).trans (hW.mono (by simp))).mono HZ.out.2.size)⟩
      go_upto_region 4 with fail
      generalize wr.alloc (.cells #[.int .i64 x.nd, .int .i64 x.cl, .int .i64 x.st, .int .i64 x.kd, .int .i64 x.tk, .int .i64 x.hd, .int .i64 x.ex, .string x.mc] 39) = wa at HB ⊢
      generalize wr.heap.size = br at HB ⊢
      clear e0 e1 e2 e3 e4 e5 e6 e7 hbl
      obtain ⟨⟨e0, e1, e2, e3, e4, e5, e6, e7⟩, _⟩ := HB.out wa (Below.refl _ _)
      have HRK := implReplyOK_any n x wa (HR.out wa (HX.out wa (HB.out wa (Below.refl _ _)).2).2).2.1 (HR.out wa (HX.out wa (HB.out wa (Below.refl _ _)).2).2).2.2
      unfold Gy.oneV at HRK
      go_wp2_with fail
      refine HRK.mono ?_
      rintro e w2 ⟨rfl, b2⟩
      have B2 : Hid (Below wa.heap.size wa w2) := b2
      clear b2 HRK e0 e1 e2 e3 e4 e5 e6 e7
      cases hg : rokB n x with
      | false =>
        have HF : Hid (reB n c = false) := by show _ = _; rw [HA.out, all_false (f := fun x => rokB n x && asB c x) HK.out (by simp [hg])]; rfl
        have G2 : Hid (Below w.heap.size w w2) := (HX.out _ (HB.out _ B2.out).2).2
        clear hg HX HB
        go_wp2_with fail
        go_ret
        exact ⟨ret_bool HF.out.symm, G2.out⟩
      | true =>
        obtain ⟨⟨c0, c1, c2, c3, c4, c5, c6, c7, c8, c9⟩, g2⟩ := HX.out _ (HB.out _ B2.out).2
        obtain ⟨⟨e0, e1, e2, e3, e4, e5, e6, e7⟩, _⟩ := HB.out _ B2.out
        have HAK := HAS.out x w2 g2
        unfold Gy.oneV at HAK
        have HG : Hid (rokB n x = true) := hg
        clear hg g2
        go_wp2_with fail
        refine HAK.mono ?_
        rintro e w3 ⟨rfl, b3⟩
        have B3 : Hid (Below wa.heap.size wa w3) := B2.out.trans (b3.mono B2.out.size)
        clear b3 HAK e0 e1 e2 e3 e4 e5 e6 e7 c0 c1 c2 c3 c4 c5 c6 c7 c8 c9
        cases ha : asB c x with
        | false =>
          have HF : Hid (reB n c = false) := by show _ = _; rw [HA.out, all_false (f := fun x => rokB n x && asB c x) HK.out (by simp [ha])]; rfl
          have G2 : Hid (Below w.heap.size w w3) := (HX.out _ (HB.out _ B3.out).2).2
          clear ha HX HB
          go_wp2_with fail
          go_ret
          exact ⟨ret_bool HF.out.symm, G2.out⟩
        | true =>
          have HU : Hid (∀ j y, j < k + 1 → c.re[j]? = some y → (rokB n y && asB c y) = true) := upto (f := fun x => rokB n x && asB c x) HZ.out.1 HK.out (by simp [HG.out, ha])
          have G3 : Hid (Below wb.heap.size wb w3) := (HB.out _ B3.out).2
          clear ha HX HB
          go_wp2_with fail
          exact ⟨⟨k + 1, by omega, by go_num, ⟨HU.out, G3.out⟩⟩, by simp [intOf]; omega⟩
    · obtain rfl : k = c.re.length := by omega
      have HT : Hid (reB n c = !(dcB n c)) := by show _ = _; rw [HA.out, all_true HZ.out.1]; rfl
      obtain ⟨⟨c0, c1, c2, c3, c4, c5, c6, c7, c8, c9⟩, g2⟩ := HX.out _ HZ.out.2
      have HDK := HDE.out _ g2
      have G2 : Hid (Below w.heap.size w wr) := g2
      clear g2
      unfold anV at HDK
      go_wp2_with fail
      refine HDK.mono ?_
      rintro e w3 ⟨rfl, b3⟩
      have G3 : Hid (Below w.heap.size w (w3.alloc (.cells #[.int .i64 (ccA n c.id c.st c.re).1, .int .i64 (ccA n c.id c.st c.re).2.1, .int .i64 (ccA n c.id c.st c.re).2.2.1, .int .i64 (ccA n c.id c.st c.re).2.2.2] 35))) := (G2.out.trans (b3.mono G2.out.size)).trans ((bel_new w3 _).mono (G2.out.trans (b3.mono G2.out.size)).size)
      clear b3 HDK HX c0 c1 c2 c3 c4 c5 c6 c7 c8 c9
      go_wp2_with fail
      go_ret
      exact ⟨ret_bool HT.out.symm, G3.out⟩
end Go.Proofs.YtiflfcpoajijaaaDoor.Cl

/- The two states of a client; right clients of the program. -/
namespace Go.Proofs.YtiflfcpoajijaaaDoor.Cl
open Go.RowKit Go.Proofs.YtiflfcpoajijaaaDoor.Sl Go.Proofs.YtiflfcpoajijaaaDoor.Rg
open Go.Proofs.YtiflfcpoajijaaaDoor.Gy (Re)
open Go.Proofs.YtiflfcpoajijaaaDoor.Rk (An anV ccR ccA ccC cc_cases implCountReplies_any)
open Go.Proofs.YtiflfcpoajijaaaDoor.Rq (reqB implRequestOK_any)
open Go.Proofs.YtiflfcpoajijaaaDoor.Ry (anB answerOK_any rokB lokB implReplyOK_any)
open Go.Proofs.YtiflfcpoajijaaaDoor.Rm (inR within_any)
open Go.Proofs.YtiflfcpoajijaaaDoor.Tm (fCode fOut f_cases implFaultsOf_any)
open Go.Proofs.YtiflfcpoajijaaaDoor.Sh (KTab KTab.below)

theorem zr_eq (c : Cd) : zrB c = (decide (c.rc = 0) && (decide (c.rs = 0) && (decide (c.rk = 0) && (decide (c.rl = 0) && decide (c.rn.toList = []))))) := by
  unfold zrB
  have hh : (c.rn = ⟨#[]⟩) ↔ (c.rn.toList = []) := by
    rw [Lib.toList_data]
    constructor
    · intro h; rw [h]
    · intro h
      have h2 : c.rn.data.toList.length = 0 := by rw [h]; rfl
      have h3 : c.rn.data = #[] := Array.eq_empty_of_size_eq_zero (by simpa using h2)
      exact ByteArray.ext h3
  rw [Bool.eq_iff_iff]
  simp [hh]
set_option maxRecDepth 100000 in
theorem eqlQ (c : Cd) (W : World) : (binOp .eql 24 (.agg #[.int .i64 c.rc, .int .i64 c.rs, .int .i64 c.rk, .int .i64 c.rl, .string c.rn]) (.agg #[.int .i64 0, .int .i64 0, .int .i64 0, .int .i64 0, .string ⟨#[]⟩])).run Tryd.prog W = .ok (.bool (zrB c)) W := by
  rw [zr_eq, run_eql_struct, run_equalIn_struct W 9999 24 _ _ (by kernel_rfl) (by kernel_rfl)]
  simp [go_sem, Program.fieldsOf, Tryd.underlying24, Tryd.underlying9, Tryd.underlying3]
  repeat' split
  all_goals simp_all
theorem guardQ (op : BinOp) (a b : Operand) (xs ys : Array Value) (W : World) : (eqGuard op 24 a b (.agg xs) (.agg ys)).run Tryd.prog W = .ok () W := run_eqGuard_agg W op 24 a b xs ys (by kernel_rfl)
theorem lenI (L : List Re) : ((L.length : Int) == 0) = decide (L.length = 0) := by
  rw [beqI, Bool.eq_iff_iff]
  simp
set_option maxRecDepth 100000 in
set_option maxHeartbeats 1600000 in
theorem restR_any (n : Int) (c : Cd) (vr va : Value) (w : World) (h : Has w c vr va) (hl : c.ac.length ≤ 1048576) (hs0 : 0 ≤ c.st) (hs1 : c.st ≤ 65535) :
    Calls Tryd.prog 91 #[clV c vr va, .int .i64 n] w fun e w' => e = .returned (.bool (restB c)) ∧ Below w.heap.size w w' := by
  have HR : Hid (∀ W, Below w.heap.size w W → Has W c vr va) := fun W hW => h.below hW
  obtain ⟨ar, kr, rfl⟩ := RowG.slice h.1
  obtain ⟨aa, ka, rfl⟩ := RowG.slice h.2
  clear h
  have HX : Hid (∀ W, Below (w.alloc (.cells #[.int .i64 c.id, .int .i64 c.st, .bool c.bu, .int .i64 c.rc, .int .i64 c.rs, .int .i64 c.rk, .int .i64 c.rl, .string c.rn, .slice ar c.re.length kr, .slice aa c.ac.length ka] 71)).heap.size (w.alloc (.cells #[.int .i64 c.id, .int .i64 c.st, .bool c.bu, .int .i64 c.rc, .int .i64 c.rs, .int .i64 c.rk, .int .i64 c.rl, .string c.rn, .slice ar c.re.length kr, .slice aa c.ac.length ka] 71)) W → (W.cell? ⟨w.heap.size, 0, none⟩ = some (.int .i64 c.id) ∧ W.cell? ⟨w.heap.size, 1, none⟩ = some (.int .i64 c.st) ∧ W.cell? ⟨w.heap.size, 2, none⟩ = some (.bool c.bu) ∧ W.cell? ⟨w.heap.size, 3, none⟩ = some (.int .i64 c.rc) ∧ W.cell? ⟨w.heap.size, 4, none⟩ = some (.int .i64 c.rs) ∧ W.cell? ⟨w.heap.size, 5, none⟩ = some (.int .i64 c.rk) ∧ W.cell? ⟨w.heap.size, 6, none⟩ = some (.int .i64 c.rl) ∧ W.cell? ⟨w.heap.size, 7, none⟩ = some (.string c.rn) ∧ W.cell? ⟨w.heap.size, 8, none⟩ = some (.slice ar c.re.length kr) ∧ W.cell? ⟨w.heap.size, 9, none⟩ = some (.slice aa c.ac.length ka)) ∧ Below w.heap.size w W) := fun W hW => by
    have h1 := (hW.block w.heap.size (by simp)).trans (heap_alloc_new w _)
    exact ⟨⟨(Rg.blk_cell h1 0 rfl).1, (Rg.blk_cell h1 1 rfl).1, (Rg.blk_cell h1 2 rfl).1, (Rg.blk_cell h1 3 rfl).1, (Rg.blk_cell h1 4 rfl).1, (Rg.blk_cell h1 5 rfl).1, (Rg.blk_cell h1 6 rfl).1, (Rg.blk_cell h1 7 rfl).1, (Rg.blk_cell h1 8 rfl).1, (Rg.blk_cell h1 9 rfl).1⟩, (bel_new w _).trans (hW.mono (by simp))⟩
  have HA : Hid (restB c = (acB c 0 && (zrB c && decide (c.re.length = 0)))) := rfl
  rw [HA.out]
  have HAC : Hid (∀ W, Below w.heap.size w W → Calls Tryd.prog 74 #[.agg #[.int .i64 c.id, .int .i64 c.st, .bool c.bu, .int .i64 c.rc, .int .i64 c.rs, .int .i64 c.rk, .int .i64 c.rl, .string c.rn, .slice ar c.re.length kr, .slice aa c.ac.length ka], .int .i64 0] W fun e w' => e = .returned (.bool (acB c 0)) ∧ Below W.heap.size W w') := fun W hW => acceptedOK_any c _ _ 0 W (HR.out W hW) hl hs0 hs1 (by decide) (by decide)
  clear HR hs0 hs1
  generalize acB c 0 = a at HAC ⊢
  have hq := eqlQ c
  have hgd := guardQ
  generalize zrB c = z at hq ⊢
  have hle := lenI c.re
  unfold clV
  go_enter Tryd.func91, Tryd.ntmps91
  go_upto_region 1 with fail
  generalize w.alloc (.cells #[.int .i64 c.id, .int .i64 c.st, .bool c.bu, .int .i64 c.rc, .int .i64 c.rs, .int .i64 c.rk, .int .i64 c.rl, .string c.rn, .slice ar c.re.length kr, .slice aa c.ac.length ka] 71) = wb at HX ⊢
  obtain ⟨⟨c0, c1, c2, c3, c4, c5, c6, c7, c8, c9⟩, g0⟩ := HX.out wb (Below.refl _ _)
  have HK := HAC.out wb g0
  clear g0
  go_wp2_with fail
  refine HK.mono ?_
  rintro e w2 ⟨rfl, b2⟩
  have B2 : Hid (Below wb.heap.size wb w2) := b2
  clear b2 HK HAC c0 c1 c2 c3 c4 c5 c6 c7 c8 c9
  obtain ⟨⟨c0, c1, c2, c3, c4, c5, c6, c7, c8, c9⟩, g2⟩ := HX.out _ B2.out
  have G2 : Hid (Below w.heap.size w w2) := g2
  clear g2 HX
  cases a with
  | false =>
    go_wp2_with fail
    go_ret
    exact ⟨rfl, G2.out⟩
  | true =>
    cases z with
    | false =>
      go_wp2_with fail
      go_ret
      exact ⟨rfl, G2.out⟩
    | true =>
      go_wp2_with fail
      go_ret
      exact ⟨ret_bool (by simp), G2.out⟩
set_option maxRecDepth 100000 in
set_option maxHeartbeats 1600000 in
theorem waitR_any (n : Int) (c : Cd) (vr va : Value) (w : World) (h : Has w c vr va) (hz : Tc 1048576 c) (hs0 : 0 ≤ c.st) (hs1 : c.st ≤ 65535) (hK : KTab w) (hp : 0 < w.heap.size) :
    Calls Tryd.prog 70 #[clV c vr va, .int .i64 n] w fun e w' => e = .returned (.bool (waitB n c)) ∧ Below w.heap.size w w' := by
  have HR : Hid (∀ W, Below w.heap.size w W → Has W c vr va ∧ KTab W ∧ 0 < W.heap.size) := fun W hW => ⟨h.below hW, hK.below hW hp, Nat.lt_of_lt_of_le hp hW.size⟩
  obtain ⟨ar, kr, rfl⟩ := RowG.slice h.1
  obtain ⟨aa, ka, rfl⟩ := RowG.slice h.2
  clear h hK hp
  have HX : Hid (∀ W, Below (w.alloc (.cells #[.int .i64 c.id, .int .i64 c.st, .bool c.bu, .int .i64 c.rc, .int .i64 c.rs, .int .i64 c.rk, .int .i64 c.rl, .string c.rn, .slice ar c.re.length kr, .slice aa c.ac.length ka] 70)).heap.size (w.alloc (.cells #[.int .i64 c.id, .int .i64 c.st, .bool c.bu, .int .i64 c.rc, .int .i64 c.rs, .int .i64 c.rk, .int .i64 c.rl, .string c.rn, .slice ar c.re.length kr, .slice aa c.ac.length ka] 70)) W → (W.cell? ⟨w.heap.size, 0, none⟩ = some (.int .i64 c.id) ∧ W.cell? ⟨w.heap.size, 1, none⟩ = some (.int .i64 c.st) ∧ W.cell? ⟨w.heap.size, 2, none⟩ = some (.bool c.bu) ∧ W.cell? ⟨w.heap.size, 3, none⟩ = some (.int .i64 c.rc) ∧ W.cell? ⟨w.heap.size, 4, none⟩ = some (.int .i64 c.rs) ∧ W.cell? ⟨w.heap.size, 5, none⟩ = some (.int .i64 c.rk) ∧ W.cell? ⟨w.heap.size, 6, none⟩ = some (.int .i64 c.rl) ∧ W.cell? ⟨w.heap.size, 7, none⟩ = some (.string c.rn) ∧ W.cell? ⟨w.heap.size, 8, none⟩ = some (.slice ar c.re.length kr) ∧ W.cell? ⟨w.heap.size, 9, none⟩ = some (.slice aa c.ac.length ka)) ∧ Below w.heap.size w W) := fun W hW => by
    have h1 := (hW.block w.heap.size (by simp)).trans (heap_alloc_new w _)
    exact ⟨⟨(Rg.blk_cell h1 0 rfl).1, (Rg.blk_cell h1 1 rfl).1, (Rg.blk_cell h1 2 rfl).1, (Rg.blk_cell h1 3 rfl).1, (Rg.blk_cell h1 4 rfl).1, (Rg.blk_cell h1 5 rfl).1, (Rg.blk_cell h1 6 rfl).1, (Rg.blk_cell h1 7 rfl).1, (Rg.blk_cell h1 8 rfl).1, (Rg.blk_cell h1 9 rfl).1⟩, (bel_new w _).trans (hW.mono (by simp))⟩
  have HA : Hid (waitB n c = (acB c 1 && (reqB c.rc c.rs c.rk c.rl c.rn && (decide (c.rc = c.id) && (decide (c.rs = c.st) && (decide (c.re.length ≤ 40) && reB n c)))))) := rfl
  rw [HA.out]
  have HAC : Hid (∀ W, Below w.heap.size w W → Calls Tryd.prog 74 #[.agg #[.int .i64 c.id, .int .i64 c.st, .bool c.bu, .int .i64 c.rc, .int .i64 c.rs, .int .i64 c.rk, .int .i64 c.rl, .string c.rn, .slice ar c.re.length kr, .slice aa c.ac.length ka], .int .i64 1] W fun e w' => e = .returned (.bool (acB c 1)) ∧ Below W.heap.size W w') := fun W hW => acceptedOK_any c _ _ 1 W (HR.out W hW).1 hz.2.2.1 hs0 hs1 (by decide) (by decide)
  have HRQ : Hid (∀ W, Calls Tryd.prog 75 #[.agg #[.int .i64 c.rc, .int .i64 c.rs, .int .i64 c.rk, .int .i64 c.rl, .string c.rn]] W fun e w' => e = .returned (.bool (reqB c.rc c.rs c.rk c.rl c.rn)) ∧ Below W.heap.size W w') := fun W => implRequestOK_any c.rc c.rs c.rk c.rl c.rn W (Nat.le_trans hz.1 (by decide))
  have HRE : Hid (∀ W, Below w.heap.size w W → Calls Tryd.prog 69 #[.agg #[.int .i64 c.id, .int .i64 c.st, .bool c.bu, .int .i64 c.rc, .int .i64 c.rs, .int .i64 c.rk, .int .i64 c.rl, .string c.rn, .slice ar c.re.length kr, .slice aa c.ac.length ka], .int .i64 n] W fun e w' => e = .returned (.bool (reB n c)) ∧ Below W.heap.size W w') := fun W hW => repliesOK_any n c _ _ W (HR.out W hW).1 hz.2.1 (HR.out W hW).2.1 (HR.out W hW).2.2
  have HLE : Hid (decide ((c.re.length : Int) ≤ 40) = decide (c.re.length ≤ 40)) := by show _ = _; rw [Bool.eq_iff_iff]; simp; omega
  have hl9 : c.re.length ≤ 1048576 := hz.2.1
  clear HR hs0 hs1 hz HA
  generalize acB c 1 = a at HAC ⊢
  generalize reqB c.rc c.rs c.rk c.rl c.rn = q at HRQ ⊢
  generalize reB n c = r at HRE ⊢
  have he1 := beqI c.rc c.id
  have he2 := beqI c.rs c.st
  generalize decide (c.rc = c.id) = d1 at he1 ⊢
  generalize decide (c.rs = c.st) = d2 at he2 ⊢
  rw [← HLE.out]
  unfold clV
  go_enter Tryd.func70, Tryd.ntmps70
  go_upto_region 1 with fail
  generalize w.alloc (.cells #[.int .i64 c.id, .int .i64 c.st, .bool c.bu, .int .i64 c.rc, .int .i64 c.rs, .int .i64 c.rk, .int .i64 c.rl, .string c.rn, .slice ar c.re.length kr, .slice aa c.ac.length ka] 70) = wb at HX ⊢
  obtain ⟨⟨c0, c1, c2, c3, c4, c5, c6, c7, c8, c9⟩, g0⟩ := HX.out wb (Below.refl _ _)
  have HK := HAC.out wb g0
  clear g0
  go_wp2_with fail
  refine HK.mono ?_
  rintro e w2 ⟨rfl, b2⟩
  have B2 : Hid (Below wb.heap.size wb w2) := b2
  clear b2 HK HAC c0 c1 c2 c3 c4 c5 c6 c7 c8 c9
  cases a with
  | false =>
    have G2 : Hid (Below w.heap.size w w2) := (HX.out _ B2.out).2
    clear HX
    go_wp2_with fail
    go_ret
    exact ⟨rfl, G2.out⟩
  | true =>
    obtain ⟨⟨c0, c1, c2, c3, c4, c5, c6, c7, c8, c9⟩, _⟩ := HX.out _ B2.out
    go_wp2_with fail
    refine (HRQ.out _).mono ?_
    rintro e w3 ⟨rfl, b3⟩
    have B3 : Hid (Below wb.heap.size wb w3) := B2.out.trans (b3.mono B2.out.size)
    clear b3 HRQ B2 c0 c1 c2 c3 c4 c5 c6 c7 c8 c9
    obtain ⟨⟨c0, c1, c2, c3, c4, c5, c6, c7, c8, c9⟩, g3⟩ := HX.out _ B3.out
    have G3 : Hid (Below w.heap.size w w3) := g3
    cases q with
    | false =>
      clear HX g3
      go_wp2_with fail
      go_ret
      exact ⟨rfl, G3.out⟩
    | true =>
      cases d1 with
      | false =>
        clear HX g3
        go_wp2_with fail
        go_ret
        exact ⟨rfl, G3.out⟩
      | true =>
        cases d2 with
        | false =>
          clear HX g3
          go_wp2_with fail
          go_ret
          exact ⟨rfl, G3.out⟩
        | true =>
          by_cases h40 : (c.re.length : Int) ≤ 40
          · have HD : Hid (decide ((c.re.length : Int) ≤ 40) = true) := by show _ = _; simpa using h40
            have HK := HRE.out _ g3
            clear g3 HLE
            go_wp2_with fail
            refine HK.mono ?_
            rintro e w4 ⟨rfl, b4⟩
            have G4 : Hid (Below w.heap.size w w4) := G3.out.trans (b4.mono G3.out.size)
            clear b4 HK HX
            go_wp2_with fail
            go_ret
            exact ⟨ret_bool (by rw [HD.out]; rfl), G4.out⟩
          · have HD : Hid (decide ((c.re.length : Int) ≤ 40) = false) := by show _ = _; simpa using h40
            clear HX g3 HLE
            go_wp2_with fail
            go_ret
            exact ⟨ret_bool (by rw [HD.out]; rfl), G3.out⟩
def stV (c : Cd) (vr va : Value) : Value := if c.bu then .iface 70 (clV c vr va) else .iface 71 (clV c vr va)
set_option maxRecDepth 100000 in
set_option maxHeartbeats 1600000 in
theorem stateOf_any (c : Cd) (vr va : Value) (w : World) (h : Has w c vr va) :
    Calls Tryd.prog 15 #[clV c vr va] w fun e w' => e = .returned (stV c vr va) ∧ Below w.heap.size w w' := by
  obtain ⟨ar, kr, rfl⟩ := RowG.slice h.1
  obtain ⟨aa, ka, rfl⟩ := RowG.slice h.2
  clear h
  have HX : Hid (∀ W, Below (w.alloc (.cells #[.int .i64 c.id, .int .i64 c.st, .bool c.bu, .int .i64 c.rc, .int .i64 c.rs, .int .i64 c.rk, .int .i64 c.rl, .string c.rn, .slice ar c.re.length kr, .slice aa c.ac.length ka] 28)).heap.size (w.alloc (.cells #[.int .i64 c.id, .int .i64 c.st, .bool c.bu, .int .i64 c.rc, .int .i64 c.rs, .int .i64 c.rk, .int .i64 c.rl, .string c.rn, .slice ar c.re.length kr, .slice aa c.ac.length ka] 28)) W → (W.cell? ⟨w.heap.size, 0, none⟩ = some (.int .i64 c.id) ∧ W.cell? ⟨w.heap.size, 1, none⟩ = some (.int .i64 c.st) ∧ W.cell? ⟨w.heap.size, 2, none⟩ = some (.bool c.bu) ∧ W.cell? ⟨w.heap.size, 3, none⟩ = some (.int .i64 c.rc) ∧ W.cell? ⟨w.heap.size, 4, none⟩ = some (.int .i64 c.rs) ∧ W.cell? ⟨w.heap.size, 5, none⟩ = some (.int .i64 c.rk) ∧ W.cell? ⟨w.heap.size, 6, none⟩ = some (.int .i64 c.rl) ∧ W.cell? ⟨w.heap.size, 7, none⟩ = some (.string c.rn) ∧ W.cell? ⟨w.heap.size, 8, none⟩ = some (.slice ar c.re.length kr) ∧ W.cell? ⟨w.heap.size, 9, none⟩ = some (.slice aa c.ac.length ka)) ∧ Below w.heap.size w W) := fun W hW => by
    have h1 := (hW.block w.heap.size (by simp)).trans (heap_alloc_new w _)
    exact ⟨⟨(Rg.blk_cell h1 0 rfl).1, (Rg.blk_cell h1 1 rfl).1, (Rg.blk_cell h1 2 rfl).1, (Rg.blk_cell h1 3 rfl).1, (Rg.blk_cell h1 4 rfl).1, (Rg.blk_cell h1 5 rfl).1, (Rg.blk_cell h1 6 rfl).1, (Rg.blk_cell h1 7 rfl).1, (Rg.blk_cell h1 8 rfl).1, (Rg.blk_cell h1 9 rfl).1⟩, (bel_new w _).trans (hW.mono (by simp))⟩
  unfold stV clV
  cases hb : c.bu with
  | true =>
    rw [hb] at HX
    go_enter Tryd.func15, Tryd.ntmps15
    go_upto_region 1 with fail
    generalize w.alloc (.cells #[.int .i64 c.id, .int .i64 c.st, .bool true, .int .i64 c.rc, .int .i64 c.rs, .int .i64 c.rk, .int .i64 c.rl, .string c.rn, .slice ar c.re.length kr, .slice aa c.ac.length ka] 28) = wb at HX ⊢
    obtain ⟨⟨c0, c1, c2, c3, c4, c5, c6, c7, c8, c9⟩, g0⟩ := HX.out wb (Below.refl _ _)
    clear HX
    go_wp2_with fail
    go_ret
    exact ⟨rfl, g0⟩
  | false =>
    rw [hb] at HX
    go_enter Tryd.func15, Tryd.ntmps15
    go_upto_region 1 with fail
    generalize w.alloc (.cells #[.int .i64 c.id, .int .i64 c.st, .bool false, .int .i64 c.rc, .int .i64 c.rs, .int .i64 c.rk, .int .i64 c.rl, .string c.rn, .slice ar c.re.length kr, .slice aa c.ac.length ka] 28) = wb at HX ⊢
    obtain ⟨⟨c0, c1, c2, c3, c4, c5, c6, c7, c8, c9⟩, g0⟩ := HX.out wb (Below.refl _ _)
    clear HX
    go_wp2_with fail
    go_ret
    exact ⟨rfl, g0⟩
theorem mRightW (v : Value) (w : World) : (Go.method 239 70 v "loop.example/g00292/impl.right").run Tryd.prog w = .ok (70, v) w := by kernel_rfl
theorem mRightR (v : Value) (w : World) : (Go.method 239 71 v "loop.example/g00292/impl.right").run Tryd.prog w = .ok (91, v) w := by kernel_rfl
set_option maxRecDepth 100000 in
set_option maxHeartbeats 1600000 in
theorem implClientOK_any (n : Int) (c : Cd) (vr va : Value) (w : World) (h : Has w c vr va) (hz : Tc 1048576 c) (hK : KTab w) (hp : 0 < w.heap.size) :
    Calls Tryd.prog 11 #[.int .i64 n, clV c vr va] w fun e w' => e = .returned (.bool (okB n c)) ∧ Below w.heap.size w w' := by
  have HR : Hid (∀ W, Below w.heap.size w W → Has W c vr va ∧ KTab W ∧ 0 < W.heap.size) := fun W hW => ⟨h.below hW, hK.below hW hp, Nat.lt_of_lt_of_le hp hW.size⟩
  obtain ⟨ar, kr, rfl⟩ := RowG.slice h.1
  obtain ⟨aa, ka, rfl⟩ := RowG.slice h.2
  clear h hK hp
  have HX : Hid (∀ W, Below (w.alloc (.cells #[.int .i64 c.id, .int .i64 c.st, .bool c.bu, .int .i64 c.rc, .int .i64 c.rs, .int .i64 c.rk, .int .i64 c.rl, .string c.rn, .slice ar c.re.length kr, .slice aa c.ac.length ka] 28)).heap.size (w.alloc (.cells #[.int .i64 c.id, .int .i64 c.st, .bool c.bu, .int .i64 c.rc, .int .i64 c.rs, .int .i64 c.rk, .int .i64 c.rl, .string c.rn, .slice ar c.re.length kr, .slice aa c.ac.length ka] 28)) W → (W.cell? ⟨w.heap.size, 0, none⟩ = some (.int .i64 c.id) ∧ W.cell? ⟨w.heap.size, 1, none⟩ = some (.int .i64 c.st) ∧ W.cell? ⟨w.heap.size, 2, none⟩ = some (.bool c.bu) ∧ W.cell? ⟨w.heap.size, 3, none⟩ = some (.int .i64 c.rc) ∧ W.cell? ⟨w.heap.size, 4, none⟩ = some (.int .i64 c.rs) ∧ W.cell? ⟨w.heap.size, 5, none⟩ = some (.int .i64 c.rk) ∧ W.cell? ⟨w.heap.size, 6, none⟩ = some (.int .i64 c.rl) ∧ W.cell? ⟨w.heap.size, 7, none⟩ = some (.string c.rn) ∧ W.cell? ⟨w.heap.size, 8, none⟩ = some (.slice ar c.re.length kr) ∧ W.cell? ⟨w.heap.size, 9, none⟩ = some (.slice aa c.ac.length ka)) ∧ Below w.heap.size w W) := fun W hW => by
    have h1 := (hW.block w.heap.size (by simp)).trans (heap_alloc_new w _)
    exact ⟨⟨(Rg.blk_cell h1 0 rfl).1, (Rg.blk_cell h1 1 rfl).1, (Rg.blk_cell h1 2 rfl).1, (Rg.blk_cell h1 3 rfl).1, (Rg.blk_cell h1 4 rfl).1, (Rg.blk_cell h1 5 rfl).1, (Rg.blk_cell h1 6 rfl).1, (Rg.blk_cell h1 7 rfl).1, (Rg.blk_cell h1 8 rfl).1, (Rg.blk_cell h1 9 rfl).1⟩, (bel_new w _).trans (hW.mono (by simp))⟩
  have HA : Hid (okB n c = (decide (fCode n = 0) && (inR c.id 0 255 && (inR c.st 0 65535 && rgB n c)))) := rfl
  rw [HA.out]
  have HST : Hid (∀ W, Below w.heap.size w W → Calls Tryd.prog 15 #[.agg #[.int .i64 c.id, .int .i64 c.st, .bool c.bu, .int .i64 c.rc, .int .i64 c.rs, .int .i64 c.rk, .int .i64 c.rl, .string c.rn, .slice ar c.re.length kr, .slice aa c.ac.length ka]] W fun e w' => e = .returned (stV c (.slice ar c.re.length kr) (.slice aa c.ac.length ka)) ∧ Below W.heap.size W w') := fun W hW => stateOf_any c _ _ W (HR.out W hW).1
  have HWR : Hid (inR c.st 0 65535 = true → ∀ W, Below w.heap.size w W → Calls Tryd.prog 70 #[.agg #[.int .i64 c.id, .int .i64 c.st, .bool c.bu, .int .i64 c.rc, .int .i64 c.rs, .int .i64 c.rk, .int .i64 c.rl, .string c.rn, .slice ar c.re.length kr, .slice aa c.ac.length ka], .int .i64 n] W fun e w' => e = .returned (.bool (waitB n c)) ∧ Below W.heap.size W w') := fun hs W hW => by
    unfold inR at hs
    simp at hs
    exact waitR_any n c _ _ W (HR.out W hW).1 hz hs.1 hs.2 (HR.out W hW).2.1 (HR.out W hW).2.2
  have HRR : Hid (inR c.st 0 65535 = true → ∀ W, Below w.heap.size w W → Calls Tryd.prog 91 #[.agg #[.int .i64 c.id, .int .i64 c.st, .bool c.bu, .int .i64 c.rc, .int .i64 c.rs, .int .i64 c.rk, .int .i64 c.rl, .string c.rn, .slice ar c.re.length kr, .slice aa c.ac.length ka], .int .i64 n] W fun e w' => e = .returned (.bool (restB c)) ∧ Below W.heap.size W w') := fun hs W hW => by
    unfold inR at hs
    simp at hs
    exact restR_any n c _ _ W (HR.out W hW).1 hz.2.2.1 hs.1 hs.2
  have HF : Hid (∀ W, Calls Tryd.prog 21 #[.int .i64 n] W fun e w' => e = .returned (.tuple #[.int .i64 (fOut n), .int .i64 (fCode n)]) ∧ w' = W) := fun W => implFaultsOf_any n W
  have mW := mRightW
  have mR := mRightR
  have h04 : fCode n = 0 ∨ fCode n = 4 := by rcases f_cases n with rfl | rfl | rfl | ⟨_, _, _, _, e⟩ <;> first | exact .inl rfl | exact .inr e
  clear hz HR HA
  generalize fOut n = fo at HF
  generalize fCode n = fc at HF h04 ⊢
  unfold clV
  go_enter Tryd.func11, Tryd.ntmps11
  go_upto_region 1 with fail
  generalize w.alloc (.cells #[.int .i64 c.id, .int .i64 c.st, .bool c.bu, .int .i64 c.rc, .int .i64 c.rs, .int .i64 c.rk, .int .i64 c.rl, .string c.rn, .slice ar c.re.length kr, .slice aa c.ac.length ka] 28) = wb at HX ⊢
  go_wp2_with fail
  refine (HF.out _).mono ?_
  rintro e w2 ⟨rfl, rfl⟩
  obtain ⟨⟨c0, c1, c2, c3, c4, c5, c6, c7, c8, c9⟩, g0⟩ := HX.out _ (Below.refl _ _)
  have G0 : Hid (Below w.heap.size w w2) := g0
  clear g0 HF
  rcases h04 with rfl | rfl
  · go_wp2_with fail
    refine (within_any c.id 0 255 _).mono ?_
    rintro e w3 ⟨rfl, rfl⟩
    cases hi : inR c.id 0 255 with
    | false =>
      go_wp2_with fail
      go_ret
      exact ⟨rfl, G0.out⟩
    | true =>
      go_wp2_with fail
      refine (within_any c.st 0 65535 _).mono ?_
      rintro e w3 ⟨rfl, rfl⟩
      cases hj : inR c.st 0 65535 with
      | false =>
        go_wp2_with fail
        go_ret
        exact ⟨rfl, G0.out⟩
      | true =>
        have HS := HST.out _ G0.out
        have HW2 := HWR.out hj
        have HR2 := HRR.out hj
        have HIJ : Hid (inR c.id 0 255 = true ∧ inR c.st 0 65535 = true) := ⟨hi, hj⟩
        clear hi hj HWR HRR HST
        have HWX : Hid (∀ W, Below w.heap.size w W → Calls Tryd.prog 70 #[.agg #[.int .i64 c.id, .int .i64 c.st, .bool c.bu, .int .i64 c.rc, .int .i64 c.rs, .int .i64 c.rk, .int .i64 c.rl, .string c.rn, .slice ar c.re.length kr, .slice aa c.ac.length ka], .int .i64 n] W fun e w' => e = .returned (.bool (waitB n c)) ∧ Below W.heap.size W w') := HW2
        have HRX : Hid (∀ W, Below w.heap.size w W → Calls Tryd.prog 91 #[.agg #[.int .i64 c.id, .int .i64 c.st, .bool c.bu, .int .i64 c.rc, .int .i64 c.rs, .int .i64 c.rk, .int .i64 c.rl, .string c.rn, .slice ar c.re.length kr, .slice aa c.ac.length ka], .int .i64 n] W fun e w' => e = .returned (.bool (restB c)) ∧ Below W.heap.size W w') := HR2
        clear HW2 HR2
        go_wp2_with fail
        refine HS.mono ?_
        rintro e w4 ⟨rfl, b4⟩
        have G4 : Hid (Below w.heap.size w w4) := G0.out.trans (b4.mono G0.out.size)
        clear b4 HS HX c0 c1 c2 c3 c4 c5 c6 c7 c8 c9
        unfold stV clV
        by_cases hb : c.bu = true
        · have HE : Hid (rgB n c = waitB n c) := if_pos hb
          rw [if_pos hb]
          clear hb
          go_wp2_with fail
          refine (HWX.out _ G4.out).mono ?_
          rintro e w5 ⟨rfl, b5⟩
          have G5 : Hid (Below w.heap.size w w5) := G4.out.trans (b5.mono G4.out.size)
          clear b5
          go_wp2_with fail
          go_ret
          exact ⟨ret_bool (by rw [HE.out, HIJ.out.1, HIJ.out.2]; rfl), G5.out⟩
        · have HE : Hid (rgB n c = restB c) := if_neg hb
          rw [if_neg hb]
          clear hb
          go_wp2_with fail
          refine (HRX.out _ G4.out).mono ?_
          rintro e w5 ⟨rfl, b5⟩
          have G5 : Hid (Below w.heap.size w w5) := G4.out.trans (b5.mono G4.out.size)
          clear b5
          go_wp2_with fail
          go_ret
          exact ⟨ret_bool (by rw [HE.out, HIJ.out.1, HIJ.out.2]; rfl), G5.out⟩
  · go_wp2_with fail
    go_ret
    exact ⟨rfl, G0.out⟩
end Go.Proofs.YtiflfcpoajijaaaDoor.Cl

/- Replies in slices of the call's own; replies that are held against one another. -/
namespace Go.Proofs.YtiflfcpoajijaaaDoor.Rr11
open Go.RowKit Go.Proofs.YtiflfcpoajijaaaDoor.Sl Go.Proofs.YtiflfcpoajijaaaDoor.Rg
open Go.Proofs.YtiflfcpoajijaaaDoor.Gy (Re)
open Go.Proofs.YtiflfcpoajijaaaDoor.Ap (addr_add wp_app)

def clV (p : Re) : List Value := [.int .i64 p.nd, .int .i64 p.cl, .int .i64 p.st, .int .i64 p.kd, .int .i64 p.tk, .int .i64 p.hd, .int .i64 p.ex, .string p.mc]
theorem oneV (p : Re) : ∀ u ∈ clV p, u.oneCell' = true := by
  intro u hu
  simp [clV] at hu
  rcases hu with rfl | rfl | rfl | rfl | rfl | rfl | rfl | rfl
  all_goals rfl
theorem lenV : ∀ (ms : List Re), (ms.flatMap clV).length = ms.length * 8
  | [] => rfl
  | x :: r => by rw [List.flatMap_cons, List.length_append, lenV r]; show 8 + _ = _; simp only [List.length_cons]; omega
theorem atV : ∀ (ms : List Re) (i : Nat) (x : Re) (j : Nat), ms[i]? = some x → j < 8 → (ms.flatMap clV)[i * 8 + j]? = (clV x)[j]?
  | [], i, x, j, h, _ => by simp at h
  | y :: r, 0, x, j, h, hj => by
    simp at h; subst h
    rw [List.flatMap_cons, List.getElem?_append_left (by show _ < 8; omega)]
    simp
  | y :: r, i + 1, x, j, h, hj => by
    have h' : r[i]? = some x := by simpa using h
    rw [List.flatMap_cons, List.getElem?_append_right (by show 8 ≤ _; omega)]
    rw [show (i + 1) * 8 + j - (clV y).length = i * 8 + j by show _ - 8 = _; omega]
    exact atV r i x j h' hj
theorem memV (ms : List Re) : ∀ u ∈ ms.flatMap clV, u.oneCell' = true := by
  intro u hu
  obtain ⟨x, _, hx⟩ := List.mem_flatMap.1 hu
  exact oneV x u hx
def OwnR (w : World) (B : Nat) (v : Value) (ms : List Re) : Prop := w.ownsRow B 39 8 v ms.length (ms.flatMap clV)
theorem OwnR.kept {w w' : World} {B : Nat} {v : Value} {ms : List Re} (h : OwnR w B v ms) (hk : ∀ g, v.ownBlock = some g → w'.heap[g]? = w.heap[g]?) : OwnR w' B v ms := by
  obtain ⟨hl, h⟩ := h
  refine ⟨hl, ?_⟩
  rcases h with h | ⟨g, cap, cur, rfl, h1, hg, h2⟩
  · exact .inl h
  · exact .inr ⟨g, cap, cur, rfl, h1, (hk g rfl).trans hg, h2⟩
theorem OwnR.lt {w : World} {B : Nat} {v : Value} {ms : List Re} (h : OwnR w B v ms) : ∀ g, v.ownBlock = some g → B ≤ g ∧ g < w.heap.size := World.ownsRow.lt h
theorem OwnR.below {w w' : World} {B : Nat} {v : Value} {ms : List Re} (h : OwnR w B v ms) (hb : Below w.heap.size w w') : OwnR w' B v ms := h.kept fun g hg => hb.block g (h.lt g hg).2
theorem OwnR.alloc {w : World} {B : Nat} {v : Value} {ms : List Re} (h : OwnR w B v ms) (o : Obj) : OwnR (w.alloc o) B v ms := h.below ((Below.refl _ _).alloc (Nat.le_refl _) _)
theorem OwnR.made (w : World) (B : Nat) (hB : B ≤ w.heap.size) : OwnR (w.alloc (.cells #[] 39)) B (.slice (some ⟨w.heap.size, 0, none⟩) 0 0) [] := World.ownsRow_made w #[] 0 hB (by decide) rfl
theorem OwnR.nil (w : World) (B : Nat) : OwnR w B (.slice none 0 0) [] := World.ownsRow_nil _ _ _ _
theorem OwnR.slice {w : World} {B : Nat} {v : Value} {ms : List Re} (h : OwnR w B v ms) : ∃ a cap, v = .slice a ms.length cap := by
  obtain ⟨_, h | ⟨g, cap, cur, he, _⟩⟩ := h
  · exact ⟨none, 0, by rw [h.1, h.2]⟩
  · exact ⟨_, cap, he⟩
theorem OwnR.mono {w : World} {B B' : Nat} {v : Value} {ms : List Re} (h : OwnR w B v ms) (hb : B' ≤ B) : OwnR w B' v ms := by
  obtain ⟨hl, h⟩ := h
  refine ⟨hl, ?_⟩
  rcases h with h | ⟨g, cap, cur, rfl, h1, hg, h2⟩
  · exact .inl h
  · exact .inr ⟨g, cap, cur, rfl, Nat.le_trans hb h1, hg, h2⟩
theorem OwnR.row {w : World} {B : Nat} {v : Value} {ms : List Re} (h : OwnR w B v ms) : Gy.Row w v ms := by
  obtain ⟨hl, h⟩ := h
  rcases h with ⟨rfl, h0⟩ | ⟨g, cap, cur, rfl, hB, hg, hc, _, hs, htk⟩
  · exact ⟨none, 0, by rw [h0], .inl (List.length_eq_zero_iff.1 h0)⟩
  · refine ⟨_, cap, rfl, .inr ⟨g, 0, rfl, hc, (Array.getElem?_eq_some_iff.1 hg).1, fun i x hi => ?_⟩⟩
    have hil := (List.getElem?_eq_some_iff.1 hi).1
    have key : ∀ j u, j < 8 → (clV x)[j]? = some u → w.cell? ⟨g, 0 + i * 8 + j, none⟩ = some u := fun j u hj hu => by
      rw [Nat.zero_add, Joins.cell_of_block hg, ← Array.getElem?_toList]
      have h1 := atV ms i x j hi hj
      rw [← htk, List.getElem?_take, if_pos (by omega)] at h1
      rw [h1, hu]
    exact ⟨key 0 _ (by decide) rfl, key 1 _ (by decide) rfl, key 2 _ (by decide) rfl, key 3 _ (by decide) rfl, key 4 _ (by decide) rfl, key 5 _ (by decide) rfl, key 6 _ (by decide) rfl, key 7 _ (by decide) rfl⟩
theorem infoR : (Tryd.prog.info? 39).map (fun i => (i.zero, i.size, i.bytes)) = some (some (.agg #[.int .i64 0, .int .i64 0, .int .i64 0, .int .i64 0, .int .i64 0, .int .i64 0, .int .i64 0, .string ⟨#[]⟩]), 8, 72) := by kernel_rfl
theorem list_re {P : Program} {ops : Array Oper} {rest : List Oper} {o : Oper} {a : Act} {Q : Exit → Act → World → Prop} (hgd : o.guard = none) (s x0 : Operand) (t : TypeId)
    (ho : o.op = .call { callee := .builtin .append, args := #[s, x0], argTypes := #[t, t] }) (i : TypeInfo) (ht : P.underlying t = some (.slice 39)) (hi : P.info? 39 = some i) (hz : i.zero = some (.agg #[.int .i64 0, .int .i64 0, .int .i64 0, .int .i64 0, .int .i64 0, .int .i64 0, .int .i64 0, .string ⟨#[]⟩]))
    (hsize : i.size = 8) (hby : i.bytes = 72) (B : Nat) (w0 W : World) (v : Value) (ms : List Re) (x : Re) (hs : a.eval s = v) (hown : OwnR W B v ms) (hg0 : Below B w0 W) (hB : B ≤ W.heap.size)
    (hx : a.eval x0 = .slice (some ⟨W.heap.size, 0, none⟩) 1 1) (hlen : ms.length ≤ 1000000)
    (h : ∀ v' w', OwnR w' B v' (ms ++ [x]) → Below B w0 w' → wpList P ops Q rest (a.put o.dst v') w') : wpList P ops Q (o :: rest) a (W.alloc (.cells #[.int .i64 x.nd, .int .i64 x.cl, .int .i64 x.st, .int .i64 x.kd, .int .i64 x.tk, .int .i64 x.hd, .int .i64 x.ex, .string x.mc] 39)) := by
  have hown' := hown.alloc (.cells #[.int .i64 x.nd, .int .i64 x.cl, .int .i64 x.st, .int .i64 x.kd, .int .i64 x.tk, .int .i64 x.hd, .int .i64 x.ex, .string x.mc] 39)
  refine wpList_append_own_at (P := P) _ hgd s x0 t ho B 39 i _ 8 72 ht hi hz hsize hby rfl (by decide) v ms.length _ hs hown' ⟨W.heap.size, 0, none⟩ 1 1 (clV x) hx rfl ?_ (oneV x) (by unfold maxLen; omega) (by omega) (by simp; omega) ?_
  · intro j u hj
    have h2 : (⟨W.heap.size, 0, none⟩ : Addr).add j = ⟨W.heap.size, j, none⟩ := by unfold Addr.add; split <;> simp_all
    rw [h2, Joins.cell_of_block (heap_alloc_new W _), ← hj]
    simp [clV]
  · intro v' w' h1 h2 h3 h4
    exact h v' w' (by unfold OwnR; rw [List.flatMap_append, List.length_append]; simpa using h1) ((hg0.alloc hB _).grown h2 (by simp; omega) (fun k hk => (hown'.lt k hk).1))
theorem guardR (op : BinOp) (a b : Operand) (xs ys : Array Value) (W : World) : (eqGuard op 39 a b (.agg xs) (.agg ys)).run Tryd.prog W = .ok () W := run_eqGuard_agg W op 39 a b xs ys (by kernel_rfl)
set_option maxRecDepth 100000 in
theorem neqR (x : Re) (W : World) : (binOp .neq 39 (.agg #[.int .i64 x.nd, .int .i64 x.cl, .int .i64 x.st, .int .i64 x.kd, .int .i64 x.tk, .int .i64 x.hd, .int .i64 x.ex, .string x.mc]) (.agg #[.int .i64 x.nd, .int .i64 x.cl, .int .i64 x.st, .int .i64 x.kd, .int .i64 x.tk, .int .i64 x.hd, .int .i64 x.ex, .string x.mc])).run Tryd.prog W = .ok (.bool false) W := by
  rw [run_neq_struct, run_equalIn_struct W 9999 39 _ _ (by kernel_rfl) (by kernel_rfl)]
  simp [go_sem, Program.fieldsOf, Tryd.underlying39, Tryd.underlying35, Tryd.underlying3, Tryd.underlying9]
end Go.Proofs.YtiflfcpoajijaaaDoor.Rr11

/- Answers in slices of one's own; whole rows appended to rows of one's own. -/
namespace Go.Proofs.YtiflfcpoajijaaaDoor.Ox
open Go.RowKit Go.Proofs.YtiflfcpoajijaaaDoor.Sl Go.Proofs.YtiflfcpoajijaaaDoor.Rg
open Go.Proofs.YtiflfcpoajijaaaDoor.Rk (An)
open Go.Proofs.YtiflfcpoajijaaaDoor.Ap (addr_add wp_app)

def clV (p : An) : List Value := [.int .i64 p.1, .int .i64 p.2.1, .int .i64 p.2.2.1, .int .i64 p.2.2.2]
theorem oneV (p : An) : ∀ u ∈ clV p, u.oneCell' = true := by
  intro u hu
  simp [clV] at hu
  rcases hu with rfl | rfl | rfl | rfl
  all_goals rfl
theorem lenV : ∀ (ms : List An), (ms.flatMap clV).length = ms.length * 4
  | [] => rfl
  | x :: r => by rw [List.flatMap_cons, List.length_append, lenV r]; show 4 + _ = _; simp only [List.length_cons]; omega
theorem atV : ∀ (ms : List An) (i : Nat) (x : An) (j : Nat), ms[i]? = some x → j < 4 → (ms.flatMap clV)[i * 4 + j]? = (clV x)[j]?
  | [], i, x, j, h, _ => by simp at h
  | y :: r, 0, x, j, h, hj => by
    simp at h; subst h
    rw [List.flatMap_cons, List.getElem?_append_left (by show _ < 4; omega)]
    simp
  | y :: r, i + 1, x, j, h, hj => by
    have h' : r[i]? = some x := by simpa using h
    rw [List.flatMap_cons, List.getElem?_append_right (by show 4 ≤ _; omega)]
    rw [show (i + 1) * 4 + j - (clV y).length = i * 4 + j by show _ - 4 = _; omega]
    exact atV r i x j h' hj
theorem memV (ms : List An) : ∀ u ∈ ms.flatMap clV, u.oneCell' = true := by
  intro u hu
  obtain ⟨x, _, hx⟩ := List.mem_flatMap.1 hu
  exact oneV x u hx
def OwnX (w : World) (B : Nat) (v : Value) (ms : List An) : Prop := w.ownsRow B 35 4 v ms.length (ms.flatMap clV)
theorem OwnX.kept {w w' : World} {B : Nat} {v : Value} {ms : List An} (h : OwnX w B v ms) (hk : ∀ g, v.ownBlock = some g → w'.heap[g]? = w.heap[g]?) : OwnX w' B v ms := by
  obtain ⟨hl, h⟩ := h
  refine ⟨hl, ?_⟩
  rcases h with h | ⟨g, cap, cur, rfl, h1, hg, h2⟩
  · exact .inl h
  · exact .inr ⟨g, cap, cur, rfl, h1, (hk g rfl).trans hg, h2⟩
theorem OwnX.lt {w : World} {B : Nat} {v : Value} {ms : List An} (h : OwnX w B v ms) : ∀ g, v.ownBlock = some g → B ≤ g ∧ g < w.heap.size := World.ownsRow.lt h
theorem OwnX.below {w w' : World} {B : Nat} {v : Value} {ms : List An} (h : OwnX w B v ms) (hb : Below w.heap.size w w') : OwnX w' B v ms := h.kept fun g hg => hb.block g (h.lt g hg).2
theorem OwnX.alloc {w : World} {B : Nat} {v : Value} {ms : List An} (h : OwnX w B v ms) (o : Obj) : OwnX (w.alloc o) B v ms := h.below ((Below.refl _ _).alloc (Nat.le_refl _) _)
theorem OwnX.made (w : World) (B : Nat) (hB : B ≤ w.heap.size) : OwnX (w.alloc (.cells #[] 35)) B (.slice (some ⟨w.heap.size, 0, none⟩) 0 0) [] := World.ownsRow_made w #[] 0 hB (by decide) rfl
theorem OwnX.nil (w : World) (B : Nat) : OwnX w B (.slice none 0 0) [] := World.ownsRow_nil _ _ _ _
theorem OwnX.slice {w : World} {B : Nat} {v : Value} {ms : List An} (h : OwnX w B v ms) : ∃ a cap, v = .slice a ms.length cap := by
  obtain ⟨_, h | ⟨g, cap, cur, he, _⟩⟩ := h
  · exact ⟨none, 0, by rw [h.1, h.2]⟩
  · exact ⟨_, cap, he⟩
theorem OwnX.mono {w : World} {B B' : Nat} {v : Value} {ms : List An} (h : OwnX w B v ms) (hb : B' ≤ B) : OwnX w B' v ms := by
  obtain ⟨hl, h⟩ := h
  refine ⟨hl, ?_⟩
  rcases h with h | ⟨g, cap, cur, rfl, h1, hg, h2⟩
  · exact .inl h
  · exact .inr ⟨g, cap, cur, rfl, Nat.le_trans hb h1, hg, h2⟩
theorem OwnX.row {w : World} {B : Nat} {v : Value} {ms : List An} (h : OwnX w B v ms) : Ga.Row w v ms := by
  obtain ⟨hl, h⟩ := h
  rcases h with ⟨rfl, h0⟩ | ⟨g, cap, cur, rfl, hB, hg, hc, _, hs, htk⟩
  · exact ⟨none, 0, by rw [h0], .inl (List.length_eq_zero_iff.1 h0)⟩
  · refine ⟨_, cap, rfl, .inr ⟨g, 0, rfl, hc, (Array.getElem?_eq_some_iff.1 hg).1, fun i x hi => ?_⟩⟩
    have hil := (List.getElem?_eq_some_iff.1 hi).1
    have key : ∀ j u, j < 4 → (clV x)[j]? = some u → w.cell? ⟨g, 0 + i * 4 + j, none⟩ = some u := fun j u hj hu => by
      rw [Nat.zero_add, Joins.cell_of_block hg, ← Array.getElem?_toList]
      have h1 := atV ms i x j hi hj
      rw [← htk, List.getElem?_take, if_pos (by omega)] at h1
      rw [h1, hu]
    exact ⟨key 0 _ (by decide) rfl, key 1 _ (by decide) rfl, key 2 _ (by decide) rfl, key 3 _ (by decide) rfl⟩
theorem infoX : (Tryd.prog.info? 35).map (fun i => (i.zero, i.size, i.bytes)) = some (some (.agg #[.int .i64 0, .int .i64 0, .int .i64 0, .int .i64 0]), 4, 32) := by kernel_rfl
end Go.Proofs.YtiflfcpoajijaaaDoor.Ox
namespace Go.Proofs.YtiflfcpoajijaaaDoor.Rr11
open Go.RowKit Go.Proofs.YtiflfcpoajijaaaDoor.Sl Go.Proofs.YtiflfcpoajijaaaDoor.Rg
open Go.Proofs.YtiflfcpoajijaaaDoor.Gy (Re)
open Go.Proofs.YtiflfcpoajijaaaDoor.Ap (addr_add wp_app)
theorem src {w : World} {b off : Nat} {xs : List Re} {cap : Nat} (h : Gy.Row w (.slice (some ⟨b, off, none⟩) xs.length cap) xs) : ∀ j u, (xs.flatMap clV)[j]? = some u → w.cell? ((⟨b, off, none⟩ : Addr).add j) = some u := by
  intro j u hj
  have hlt := (List.getElem?_eq_some_iff.1 hj).1
  rw [lenV] at hlt
  obtain ⟨x, hx⟩ : ∃ x, xs[j / 8]? = some x := ⟨_, List.getElem?_eq_getElem (by omega)⟩
  obtain ⟨b', off', hab, _, hE⟩ := RowG.at h rfl hx
  cases hab
  have h2 := atV xs (j / 8) x (j % 8) hx (Nat.mod_lt _ (by decide))
  rw [show j / 8 * 8 + j % 8 = j by omega, hj] at h2
  rw [addr_add, show off + j = off + j / 8 * 8 + j % 8 by omega]
  obtain ⟨e0, e1, e2, e3, e4, e5, e6, e7⟩ := hE
  rcases (by omega : j % 8 = 0 ∨ j % 8 = 1 ∨ j % 8 = 2 ∨ j % 8 = 3 ∨ j % 8 = 4 ∨ j % 8 = 5 ∨ j % 8 = 6 ∨ j % 8 = 7) with q | q | q | q | q | q | q | q
  · rw [q] at h2 ⊢; exact e0.trans h2.symm
  · rw [q] at h2 ⊢; exact e1.trans h2.symm
  · rw [q] at h2 ⊢; exact e2.trans h2.symm
  · rw [q] at h2 ⊢; exact e3.trans h2.symm
  · rw [q] at h2 ⊢; exact e4.trans h2.symm
  · rw [q] at h2 ⊢; exact e5.trans h2.symm
  · rw [q] at h2 ⊢; exact e6.trans h2.symm
  · rw [q] at h2 ⊢; exact e7.trans h2.symm
/-- 'append(v, u...)': v of one's own, u any row. -/
theorem app {P : Program} {i : TypeInfo} (W : World) (B : Nat) (t ty : TypeId) (ht : P.underlying t = some (.slice 39)) (hi : P.info? 39 = some i) (hz : i.zero = some (.agg #[.int .i64 0, .int .i64 0, .int .i64 0, .int .i64 0, .int .i64 0, .int .i64 0, .int .i64 0, .string ⟨#[]⟩])) (hsize : i.size = 8) (hby : i.bytes = 72)
    (v u : Value) (ms xs : List Re) (hown : OwnR W B v ms) (hrow : Gy.Row W u xs) (hB : B ≤ W.heap.size) (hlen : ms.length + xs.length ≤ 3000000) :
    ∃ v' w', (Builtin.append_ #[t, t] ty #[v, u]).run P W = .ok v' w' ∧ OwnR w' B v' (ms ++ xs) ∧ W.grownBy w' v.ownBlock ∧ (v'.ownBlock = v.ownBlock ∨ v'.ownBlock = some W.heap.size) := by
  have key : ∀ (ad : Addr) (cap : Nat), (∀ j u, (xs.flatMap clV)[j]? = some u → W.cell? (ad.add j) = some u) → u = .slice (some ad) xs.length cap → ∃ v' w', (Builtin.append_ #[t, t] ty #[v, u]).run P W = .ok v' w' ∧ OwnR w' B v' (ms ++ xs) ∧ W.grownBy w' v.ownBlock ∧ (v'.ownBlock = v.ownBlock ∨ v'.ownBlock = some W.heap.size) := fun ad cap hs hu => by
    obtain ⟨v', w', hr, h2, h3, _, h5⟩ := run_append_own_at (P := P) W B t ty 39 i _ 8 72 ht hi hz hsize hby rfl (by decide) v ms.length _ hown ad xs.length cap (xs.flatMap clV) (lenV xs) hs (memV xs) (by unfold maxLen; omega) (by omega) hB
    subst hu
    exact ⟨v', w', hr, by unfold OwnR; rw [List.flatMap_append, List.length_append]; exact h2, h3, h5⟩
  obtain ⟨a, cap, rfl, h⟩ := hrow
  rcases h with rfl | ⟨b, off, rfl, hc, hlt, h⟩
  · cases a with
    | none =>
      have hr : (Builtin.append_ #[t, t] ty #[v, .slice none 0 cap]).run P W = .ok v W := by
        rcases hown.2 with ⟨rfl, _⟩ | ⟨g, cap', cur, rfl, _, _, hnc, _⟩
        · simp [Builtin.append_, run_underlying ht, sizeOf, typeInfo, hi, Builtin.lenOf, Builtin.firstCells]
        · simp [Builtin.append_, run_underlying ht, sizeOf, typeInfo, hi, Builtin.lenOf, Builtin.firstCells, hnc, storeCells]
      exact ⟨v, W, hr, by rw [List.append_nil]; exact hown, ⟨rfl, rfl, rfl, Nat.le_refl _, fun k _ _ => rfl⟩, .inl rfl⟩
    | some ad => exact key ad cap (fun j u hj => by simp at hj) rfl
  · exact key _ cap (src ⟨_, cap, rfl, .inr ⟨b, off, rfl, hc, hlt, h⟩⟩) rfl
theorem list_app {P : Program} {ops : Array Oper} {rest : List Oper} {o : Oper} {a : Act} {Q : Exit → Act → World → Prop} (hgd : o.guard = none) (s x0 : Operand) (t : TypeId)
    (ho : o.op = .call { callee := .builtin .append, args := #[s, x0], argTypes := #[t, t] }) (i : TypeInfo) (ht : P.underlying t = some (.slice 39)) (hi : P.info? 39 = some i) (hz : i.zero = some (.agg #[.int .i64 0, .int .i64 0, .int .i64 0, .int .i64 0, .int .i64 0, .int .i64 0, .int .i64 0, .string ⟨#[]⟩])) (hsize : i.size = 8) (hby : i.bytes = 72)
    (B : Nat) (W : World) (v u : Value) (ms xs : List Re) (hs : a.eval s = v) (hx : a.eval x0 = u) (hown : OwnR W B v ms) (hrow : Gy.Row W u xs) (hB : B ≤ W.heap.size) (hlen : ms.length + xs.length ≤ 3000000)
    (h : ∀ v' w', OwnR w' B v' (ms ++ xs) → (∀ k, k < W.heap.size → v.ownBlock ≠ some k → w'.heap[k]? = W.heap[k]?) → Below B W w' → wpList P ops Q rest (a.put o.dst v') w') : wpList P ops Q (o :: rest) a W := by
  refine wpList_plain hgd fun K hK => ?_
  obtain ⟨v', w', hr, h2, h3, h5⟩ := app (P := P) W B t o.type ht hi hz hsize hby v u ms xs hown hrow hB hlen
  exact wp_app ho hs hx hr (hK _ _ (h v' w' h2 (fun k hk hne => h3.block k hk (fun e => hne e.symm)) ((Below.refl _ _).grown h3 hB (fun k hk => (hown.lt k hk).1))))
theorem step_app {P : Program} {ops : Array Oper} {o : Oper} {a : Act} {K : Act → World → Prop} {Q : Exit → Act → World → Prop} {E : Prop} (hgd : o.guard = none) (s x0 : Operand) (t : TypeId)
    (ho : o.op = .call { callee := .builtin .append, args := #[s, x0], argTypes := #[t, t] }) (i : TypeInfo) (ht : P.underlying t = some (.slice 39)) (hi : P.info? 39 = some i) (hz : i.zero = some (.agg #[.int .i64 0, .int .i64 0, .int .i64 0, .int .i64 0, .int .i64 0, .int .i64 0, .int .i64 0, .string ⟨#[]⟩])) (hsize : i.size = 8) (hby : i.bytes = 72)
    (B : Nat) (W : World) (v u : Value) (ms xs : List Re) (hs : a.eval s = v) (hx : a.eval x0 = u) (hown : OwnR W B v ms) (hrow : Gy.Row W u xs) (hB : B ≤ W.heap.size) (hlen : ms.length + xs.length ≤ 3000000)
    (h : ∀ v' w', OwnR w' B v' (ms ++ xs) → (∀ k, k < W.heap.size → v.ownBlock ≠ some k → w'.heap[k]? = W.heap[k]?) → Below B W w' → K (a.put o.dst v') w') : if Region.wanted o (yielded ops a.tmps) = true then Oper.wp P o a W K Q else E := by
  have hw : Region.wanted o (yielded ops a.tmps) = true := by simp [Region.wanted, hgd]
  rw [if_pos hw]
  obtain ⟨v', w', hr, h2, h3, h5⟩ := app (P := P) W B t o.type ht hi hz hsize hby v u ms xs hown hrow hB hlen
  exact wp_app ho hs hx hr (h v' w' h2 (fun k hk hne => h3.block k hk (fun e => hne e.symm)) ((Below.refl _ _).grown h3 hB (fun k hk => (hown.lt k hk).1)))
end Go.Proofs.YtiflfcpoajijaaaDoor.Rr11
namespace Go.Proofs.YtiflfcpoajijaaaDoor.Ox
open Go.RowKit Go.Proofs.YtiflfcpoajijaaaDoor.Sl Go.Proofs.YtiflfcpoajijaaaDoor.Rg
open Go.Proofs.YtiflfcpoajijaaaDoor.Rk (An)
open Go.Proofs.YtiflfcpoajijaaaDoor.Ap (addr_add wp_app)
theorem src {w : World} {b off : Nat} {xs : List An} {cap : Nat} (h : Ga.Row w (.slice (some ⟨b, off, none⟩) xs.length cap) xs) : ∀ j u, (xs.flatMap clV)[j]? = some u → w.cell? ((⟨b, off, none⟩ : Addr).add j) = some u := by
  intro j u hj
  have hlt := (List.getElem?_eq_some_iff.1 hj).1
  rw [lenV] at hlt
  obtain ⟨x, hx⟩ : ∃ x, xs[j / 4]? = some x := ⟨_, List.getElem?_eq_getElem (by omega)⟩
  obtain ⟨b', off', hab, _, hE⟩ := RowG.at h rfl hx
  cases hab
  have h2 := atV xs (j / 4) x (j % 4) hx (Nat.mod_lt _ (by decide))
  rw [show j / 4 * 4 + j % 4 = j by omega, hj] at h2
  rw [addr_add, show off + j = off + j / 4 * 4 + j % 4 by omega]
  obtain ⟨e0, e1, e2, e3⟩ := hE
  rcases (by omega : j % 4 = 0 ∨ j % 4 = 1 ∨ j % 4 = 2 ∨ j % 4 = 3) with q | q | q | q
  · rw [q] at h2 ⊢; exact e0.trans h2.symm
  · rw [q] at h2 ⊢; exact e1.trans h2.symm
  · rw [q] at h2 ⊢; exact e2.trans h2.symm
  · rw [q] at h2 ⊢; exact e3.trans h2.symm
/-- 'append(v, u...)': v of one's own, u any row. -/
theorem app {P : Program} {i : TypeInfo} (W : World) (B : Nat) (t ty : TypeId) (ht : P.underlying t = some (.slice 35)) (hi : P.info? 35 = some i) (hz : i.zero = some (.agg #[.int .i64 0, .int .i64 0, .int .i64 0, .int .i64 0])) (hsize : i.size = 4) (hby : i.bytes = 32)
    (v u : Value) (ms xs : List An) (hown : OwnX W B v ms) (hrow : Ga.Row W u xs) (hB : B ≤ W.heap.size) (hlen : ms.length + xs.length ≤ 3000000) :
    ∃ v' w', (Builtin.append_ #[t, t] ty #[v, u]).run P W = .ok v' w' ∧ OwnX w' B v' (ms ++ xs) ∧ W.grownBy w' v.ownBlock ∧ (v'.ownBlock = v.ownBlock ∨ v'.ownBlock = some W.heap.size) := by
  have key : ∀ (ad : Addr) (cap : Nat), (∀ j u, (xs.flatMap clV)[j]? = some u → W.cell? (ad.add j) = some u) → u = .slice (some ad) xs.length cap → ∃ v' w', (Builtin.append_ #[t, t] ty #[v, u]).run P W = .ok v' w' ∧ OwnX w' B v' (ms ++ xs) ∧ W.grownBy w' v.ownBlock ∧ (v'.ownBlock = v.ownBlock ∨ v'.ownBlock = some W.heap.size) := fun ad cap hs hu => by
    obtain ⟨v', w', hr, h2, h3, _, h5⟩ := run_append_own_at (P := P) W B t ty 35 i _ 4 32 ht hi hz hsize hby rfl (by decide) v ms.length _ hown ad xs.length cap (xs.flatMap clV) (lenV xs) hs (memV xs) (by unfold maxLen; omega) (by omega) hB
    subst hu
    exact ⟨v', w', hr, by unfold OwnX; rw [List.flatMap_append, List.length_append]; exact h2, h3, h5⟩
  obtain ⟨a, cap, rfl, h⟩ := hrow
  rcases h with rfl | ⟨b, off, rfl, hc, hlt, h⟩
  · cases a with
    | none =>
      have hr : (Builtin.append_ #[t, t] ty #[v, .slice none 0 cap]).run P W = .ok v W := by
        rcases hown.2 with ⟨rfl, _⟩ | ⟨g, cap', cur, rfl, _, _, hnc, _⟩
        · simp [Builtin.append_, run_underlying ht, sizeOf, typeInfo, hi, Builtin.lenOf, Builtin.firstCells]
        · simp [Builtin.append_, run_underlying ht, sizeOf, typeInfo, hi, Builtin.lenOf, Builtin.firstCells, hnc, storeCells]
      exact ⟨v, W, hr, by rw [List.append_nil]; exact hown, ⟨rfl, rfl, rfl, Nat.le_refl _, fun k _ _ => rfl⟩, .inl rfl⟩
    | some ad => exact key ad cap (fun j u hj => by simp at hj) rfl
  · exact key _ cap (src ⟨_, cap, rfl, .inr ⟨b, off, rfl, hc, hlt, h⟩⟩) rfl
theorem list_app {P : Program} {ops : Array Oper} {rest : List Oper} {o : Oper} {a : Act} {Q : Exit → Act → World → Prop} (hgd : o.guard = none) (s x0 : Operand) (t : TypeId)
    (ho : o.op = .call { callee := .builtin .append, args := #[s, x0], argTypes := #[t, t] }) (i : TypeInfo) (ht : P.underlying t = some (.slice 35)) (hi : P.info? 35 = some i) (hz : i.zero = some (.agg #[.int .i64 0, .int .i64 0, .int .i64 0, .int .i64 0])) (hsize : i.size = 4) (hby : i.bytes = 32)
    (B : Nat) (W : World) (v u : Value) (ms xs : List An) (hs : a.eval s = v) (hx : a.eval x0 = u) (hown : OwnX W B v ms) (hrow : Ga.Row W u xs) (hB : B ≤ W.heap.size) (hlen : ms.length + xs.length ≤ 3000000)
    (h : ∀ v' w', OwnX w' B v' (ms ++ xs) → (∀ k, k < W.heap.size → v.ownBlock ≠ some k → w'.heap[k]? = W.heap[k]?) → Below B W w' → wpList P ops Q rest (a.put o.dst v') w') : wpList P ops Q (o :: rest) a W := by
  refine wpList_plain hgd fun K hK => ?_
  obtain ⟨v', w', hr, h2, h3, h5⟩ := app (P := P) W B t o.type ht hi hz hsize hby v u ms xs hown hrow hB hlen
  exact wp_app ho hs hx hr (hK _ _ (h v' w' h2 (fun k hk hne => h3.block k hk (fun e => hne e.symm)) ((Below.refl _ _).grown h3 hB (fun k hk => (hown.lt k hk).1))))
theorem step_app {P : Program} {ops : Array Oper} {o : Oper} {a : Act} {K : Act → World → Prop} {Q : Exit → Act → World → Prop} {E : Prop} (hgd : o.guard = none) (s x0 : Operand) (t : TypeId)
    (ho : o.op = .call { callee := .builtin .append, args := #[s, x0], argTypes := #[t, t] }) (i : TypeInfo) (ht : P.underlying t = some (.slice 35)) (hi : P.info? 35 = some i) (hz : i.zero = some (.agg #[.int .i64 0, .int .i64 0, .int .i64 0, .int .i64 0])) (hsize : i.size = 4) (hby : i.bytes = 32)
    (B : Nat) (W : World) (v u : Value) (ms xs : List An) (hs : a.eval s = v) (hx : a.eval x0 = u) (hown : OwnX W B v ms) (hrow : Ga.Row W u xs) (hB : B ≤ W.heap.size) (hlen : ms.length + xs.length ≤ 3000000)
    (h : ∀ v' w', OwnX w' B v' (ms ++ xs) → (∀ k, k < W.heap.size → v.ownBlock ≠ some k → w'.heap[k]? = W.heap[k]?) → Below B W w' → K (a.put o.dst v') w') : if Region.wanted o (yielded ops a.tmps) = true then Oper.wp P o a W K Q else E := by
  have hw : Region.wanted o (yielded ops a.tmps) = true := by simp [Region.wanted, hgd]
  rw [if_pos hw]
  obtain ⟨v', w', hr, h2, h3, h5⟩ := app (P := P) W B t o.type ht hi hz hsize hby v u ms xs hown hrow hB hlen
  exact wp_app ho hs hx hr (h v' w' h2 (fun k hk hne => h3.block k hk (fun e => hne e.symm)) ((Below.refl _ _).grown h3 hB (fun k hk => (hown.lt k hk).1)))
end Go.Proofs.YtiflfcpoajijaaaDoor.Ox

/- A client is copied; what its states hear. -/
namespace Go.Proofs.YtiflfcpoajijaaaDoor.Cl
open Go.RowKit Go.Proofs.YtiflfcpoajijaaaDoor.Sl Go.Proofs.YtiflfcpoajijaaaDoor.Rg
open Go.Proofs.YtiflfcpoajijaaaDoor.Gy (Re)
open Go.Proofs.YtiflfcpoajijaaaDoor.Rk (An anV ccR ccA ccC cc_cases implCountReplies_any)
open Go.Proofs.YtiflfcpoajijaaaDoor.Rq (reqB implRequestOK_any)
open Go.Proofs.YtiflfcpoajijaaaDoor.Ry (anB answerOK_any rokB lokB implReplyOK_any)
open Go.Proofs.YtiflfcpoajijaaaDoor.Rm (inR within_any)
open Go.Proofs.YtiflfcpoajijaaaDoor.Tm (fCode fOut f_cases implFaultsOf_any)
open Go.Proofs.YtiflfcpoajijaaaDoor.Sh (KTab KTab.below)

open Go.Proofs.YtiflfcpoajijaaaDoor.Rr11 (OwnR)
open Go.Proofs.YtiflfcpoajijaaaDoor.Ox (OwnX)
/-- Both lists lie in memory of one's own. -/
def Mine (w : World) (B : Nat) (c : Cd) (vr va : Value) : Prop := OwnR w B vr c.re ∧ OwnX w B va c.ac
theorem Mine.has {w : World} {B : Nat} {c : Cd} {vr va : Value} (h : Mine w B c vr va) : Has w c vr va := ⟨h.1.row, h.2.row⟩
theorem Mine.below {w w' : World} {B : Nat} {c : Cd} {vr va : Value} (h : Mine w B c vr va) (hb : Below w.heap.size w w') : Mine w' B c vr va := ⟨h.1.below hb, h.2.below hb⟩
theorem Mine.mono {w : World} {B B' : Nat} {c : Cd} {vr va : Value} (h : Mine w B c vr va) (hb : B' ≤ B) : Mine w B' c vr va := ⟨h.1.mono hb, h.2.mono hb⟩
theorem Mine.kept {w w' : World} {B : Nat} {c : Cd} {vr va : Value} (h : Mine w B c vr va) (hk : ∀ g, B ≤ g → g < w.heap.size → w'.heap[g]? = w.heap[g]?) : Mine w' B c vr va := ⟨h.1.kept fun g hg => hk g (h.1.lt g hg).1 (h.1.lt g hg).2, h.2.kept fun g hg => hk g (h.2.lt g hg).1 (h.2.lt g hg).2⟩
theorem Mine.set {w : World} {B p j : Nat} {x : Value} {c : Cd} {vr va : Value} (h : Mine w B c vr va) (hp : p < B) : Mine (w.setCell ⟨p, j, none⟩ x) B c vr va := h.kept fun g hg _ => Rg.blk_far (by omega) j x
theorem ownR_set {w : World} {B p j : Nat} {x v : Value} {xs : List Re} (h : OwnR w B v xs) (hp : p < B) : OwnR (w.setCell ⟨p, j, none⟩ x) B v xs := h.kept fun g hg => Rg.blk_far (by have := (h.lt g hg).1; omega) j x
theorem ownX_set {w : World} {B p j : Nat} {x v : Value} {xs : List An} (h : OwnX w B v xs) (hp : p < B) : OwnX (w.setCell ⟨p, j, none⟩ x) B v xs := h.kept fun g hg => Rg.blk_far (by have := (h.lt g hg).1; omega) j x
/-- While a client is copied: the box, the result. -/
structure Co (t : TypeId) (w W : World) (X : Array Value) : Prop where
  bx : W.heap[w.heap.size]? = some (.cells X t (0, 0))
  rs : W.heap[w.heap.size + 1]? = some (.cells #[.int .i64 0, .int .i64 0, .bool false, .int .i64 0, .int .i64 0, .int .i64 0, .int .i64 0, .string ⟨#[]⟩, .slice none 0 0, .slice none 0 0] 28 (0, 0))
  be : Below w.heap.size w W
theorem Co.below {t : TypeId} {w W W' : World} {X : Array Value} (h : Co t w W X) (b : Below W.heap.size W W') : Co t w W' X :=
  ⟨(b.block _ (Array.getElem?_eq_some_iff.1 h.bx).1).trans h.bx, (b.block _ (Array.getElem?_eq_some_iff.1 h.rs).1).trans h.rs, h.be.trans (b.mono h.be.size)⟩
theorem Co.sz {t : TypeId} {w W : World} {X : Array Value} (h : Co t w W X) : w.heap.size + 2 ≤ W.heap.size := (Array.getElem?_eq_some_iff.1 h.rs).1
theorem Co.set {t : TypeId} {w W : World} {X : Array Value} (h : Co t w W X) (j : Nat) (y : Value) : Co t w (W.setCell ⟨w.heap.size, j, none⟩ y) (X.setIfInBounds j y) :=
  ⟨Rg.blk_set h.bx j y, (Rg.blk_far (by omega) j y).trans h.rs, Below.setCell h.be (p := ⟨w.heap.size, j, none⟩) (Nat.le_refl _) y⟩
theorem co_start (t : TypeId) (w : World) (X : Array Value) : Co t w ((w.alloc (.cells X t)).alloc (.cells #[.int .i64 0, .int .i64 0, .bool false, .int .i64 0, .int .i64 0, .int .i64 0, .int .i64 0, .string ⟨#[]⟩, .slice none 0 0, .slice none 0 0] 28)) X := by
  obtain ⟨h1, h2, h3⟩ := Gy.two (w := w) (o0 := .cells X t) (o1 := .cells #[.int .i64 0, .int .i64 0, .bool false, .int .i64 0, .int .i64 0, .int .i64 0, .int .i64 0, .string ⟨#[]⟩, .slice none 0 0, .slice none 0 0] 28) (Below.refl _ _)
  exact ⟨h1, h2, h3⟩
set_option maxRecDepth 100000 in
set_option maxHeartbeats 1600000 in
theorem copyClient_any (c : Cd) (vr va : Value) (w : World) (h : Has w c vr va) (hzr : c.re.length ≤ 1048576) (hza : c.ac.length ≤ 1048576) :
    Calls Tryd.prog 16 #[clV c vr va] w fun e w' => ∃ vr' va', e = .returned (clV c vr' va') ∧ Hid (Mine w' w.heap.size c vr' va') ∧ Below w.heap.size w w' := by
  obtain ⟨i0, hi0, hz0, hz1, hz2⟩ := info_parts Rr11.infoR
  obtain ⟨j0, hj0, hy0, hy1, hy2⟩ := info_parts Ox.infoX
  have HR : Hid (∀ W, Below w.heap.size w W → Has W c vr va) := fun W hW => h.below hW
  obtain ⟨ar, kr, rfl⟩ := RowG.slice h.1
  obtain ⟨aa, ka, rfl⟩ := RowG.slice h.2
  clear h
  have S0 : Hid _ := co_start 28 w #[.int .i64 c.id, .int .i64 c.st, .bool c.bu, .int .i64 c.rc, .int .i64 c.rs, .int .i64 c.rk, .int .i64 c.rl, .string c.rn, .slice ar c.re.length kr, .slice aa c.ac.length ka]
  unfold clV
  go_enter Tryd.func16, Tryd.ntmps16
  go_upto_region 1 with fail
  generalize (w.alloc (.cells #[.int .i64 c.id, .int .i64 c.st, .bool c.bu, .int .i64 c.rc, .int .i64 c.rs, .int .i64 c.rk, .int .i64 c.rl, .string c.rn, .slice ar c.re.length kr, .slice aa c.ac.length ka] 28)).alloc (.cells #[.int .i64 0, .int .i64 0, .bool false, .int .i64 0, .int .i64 0, .int .i64 0, .int .i64 0, .string ⟨#[]⟩, .slice none 0 0, .slice none 0 0] 28) = wb at S0 ⊢
  have p8 := (Rg.blk_cell S0.out.bx 8 (x := .slice ar c.re.length kr) rfl).1
  have HA : Hid (OwnR wb wb.heap.size (.slice none 0 0) [] ∧ Gy.Row wb (.slice ar c.re.length kr) c.re) := ⟨Rr11.OwnR.nil _ _, (HR.out _ S0.out.be).1⟩
  go_upto_region 2 with (at_builtin; go_must (refine Rr11.list_app (by rfl) _ _ 25 (by rfl) i0 Tryd.underlying25 hi0 hz0 hz1 hz2 wb.heap.size _ _ _ [] c.re (by rfl) (by rfl) HA.out.1 HA.out.2 (Nat.le_refl _) (by simp; omega) ?_; intro v1 w1 o1 f1 b1; rw [List.nil_append] at o1; obtain ⟨a1, k1, rfl⟩ := o1.slice; obtain ⟨m8, n8⟩ := Rg.blk_cell (S0.out.below b1).bx 8 (x := .slice ar c.re.length kr) rfl))
  have S1 : Hid (Co 28 w (w1.setCell ⟨w.heap.size, 8, none⟩ (.slice a1 c.re.length k1)) #[.int .i64 c.id, .int .i64 c.st, .bool c.bu, .int .i64 c.rc, .int .i64 c.rs, .int .i64 c.rk, .int .i64 c.rl, .string c.rn, .slice a1 c.re.length k1, .slice aa c.ac.length ka]) := (S0.out.below b1).set 8 (.slice a1 c.re.length k1)
  have O1 : Hid (OwnR (w1.setCell ⟨w.heap.size, 8, none⟩ (.slice a1 c.re.length k1)) (w.heap.size + 2) (.slice a1 c.re.length k1) c.re) := ownR_set (o1.mono S0.out.sz) (by omega)
  generalize (w1.setCell ⟨w.heap.size, 8, none⟩ (.slice a1 c.re.length k1)) = u1 at S1 O1 ⊢
  clear m8 n8 p8 o1 f1 b1 HA S0
  have p9 := (Rg.blk_cell S1.out.bx 9 (x := .slice aa c.ac.length ka) rfl).1
  have HA : Hid (OwnX u1 u1.heap.size (.slice none 0 0) [] ∧ Ga.Row u1 (.slice aa c.ac.length ka) c.ac) := ⟨Ox.OwnX.nil _ _, (HR.out _ S1.out.be).2⟩
  go_upto_region 3 with (at_builtin; go_must (refine Ox.list_app (by rfl) _ _ 26 (by rfl) j0 Tryd.underlying26 hj0 hy0 hy1 hy2 u1.heap.size _ _ _ [] c.ac (by rfl) (by rfl) HA.out.1 HA.out.2 (Nat.le_refl _) (by simp; omega) ?_; intro v2 w2 o2 f2 b2; rw [List.nil_append] at o2; obtain ⟨a2, k2, rfl⟩ := o2.slice; obtain ⟨m9, n9⟩ := Rg.blk_cell (S1.out.below b2).bx 9 (x := .slice aa c.ac.length ka) rfl))
  have S2 : Hid (Co 28 w (w2.setCell ⟨w.heap.size, 9, none⟩ (.slice a2 c.ac.length k2)) #[.int .i64 c.id, .int .i64 c.st, .bool c.bu, .int .i64 c.rc, .int .i64 c.rs, .int .i64 c.rk, .int .i64 c.rl, .string c.rn, .slice a1 c.re.length k1, .slice a2 c.ac.length k2]) := (S1.out.below b2).set 9 (.slice a2 c.ac.length k2)
  have O2 : Hid (Mine (w2.setCell ⟨w.heap.size, 9, none⟩ (.slice a2 c.ac.length k2)) (w.heap.size + 2) c (.slice a1 c.re.length k1) (.slice a2 c.ac.length k2)) := Mine.set (c := c) ⟨O1.out.below b2, o2.mono S1.out.sz⟩ (by omega)
  generalize (w2.setCell ⟨w.heap.size, 9, none⟩ (.slice a2 c.ac.length k2)) = u2 at S2 O2 ⊢
  clear m9 n9 p9 o2 f2 b2 HA S1 O1
  have l0 := (Rg.blk_cell S2.out.bx 0 (x := .int .i64 c.id) rfl).1
  have l1 := (Rg.blk_cell S2.out.bx 1 (x := .int .i64 c.st) rfl).1
  have l2 := (Rg.blk_cell S2.out.bx 2 (x := .bool c.bu) rfl).1
  have l3 := (Rg.blk_cell S2.out.bx 3 (x := .int .i64 c.rc) rfl).1
  have l4 := (Rg.blk_cell S2.out.bx 4 (x := .int .i64 c.rs) rfl).1
  have l5 := (Rg.blk_cell S2.out.bx 5 (x := .int .i64 c.rk) rfl).1
  have l6 := (Rg.blk_cell S2.out.bx 6 (x := .int .i64 c.rl) rfl).1
  have l7 := (Rg.blk_cell S2.out.bx 7 (x := .string c.rn) rfl).1
  have l8 := (Rg.blk_cell S2.out.bx 8 (x := .slice a1 c.re.length k1) rfl).1
  have l9 := (Rg.blk_cell S2.out.bx 9 (x := .slice a2 c.ac.length k2) rfl).1
  obtain ⟨z0, fz0⟩ := Rg.blk_cell S2.out.rs 0 (x := .int .i64 0) rfl
  obtain ⟨z1, fz1⟩ := Rg.blk_cell S2.out.rs 1 (x := .int .i64 0) rfl
  obtain ⟨z2, fz2⟩ := Rg.blk_cell S2.out.rs 2 (x := .bool false) rfl
  obtain ⟨z3, fz3⟩ := Rg.blk_cell S2.out.rs 3 (x := .int .i64 0) rfl
  obtain ⟨z4, fz4⟩ := Rg.blk_cell S2.out.rs 4 (x := .int .i64 0) rfl
  obtain ⟨z5, fz5⟩ := Rg.blk_cell S2.out.rs 5 (x := .int .i64 0) rfl
  obtain ⟨z6, fz6⟩ := Rg.blk_cell S2.out.rs 6 (x := .int .i64 0) rfl
  obtain ⟨z7, fz7⟩ := Rg.blk_cell S2.out.rs 7 (x := .string ⟨#[]⟩) rfl
  obtain ⟨z8, fz8⟩ := Rg.blk_cell S2.out.rs 8 (x := .slice none 0 0) rfl
  obtain ⟨z9, fz9⟩ := Rg.blk_cell S2.out.rs 9 (x := .slice none 0 0) rfl
  obtain ⟨AF, HB, GF0⟩ := set10 (.int .i64 0) (.int .i64 0) (.bool false) (.int .i64 0) (.int .i64 0) (.int .i64 0) (.int .i64 0) (.string ⟨#[]⟩) (.slice none 0 0) (.slice none 0 0) (.int .i64 c.id) (.int .i64 c.st) (.bool c.bu) (.int .i64 c.rc) (.int .i64 c.rs) (.int .i64 c.rk) (.int .i64 c.rl) (.string c.rn) (.slice a1 c.re.length k1) (.slice a2 c.ac.length k2) S2.out.rs
  have GF := GF0 S2.out.be (Nat.le_succ w.heap.size)
  have KF : Hid (Mine ((((((((((u2.setCell ⟨w.heap.size + 1, 0, none⟩ (.int .i64 c.id)).setCell ⟨w.heap.size + 1, 1, none⟩ (.int .i64 c.st)).setCell ⟨w.heap.size + 1, 2, none⟩ (.bool c.bu)).setCell ⟨w.heap.size + 1, 3, none⟩ (.int .i64 c.rc)).setCell ⟨w.heap.size + 1, 4, none⟩ (.int .i64 c.rs)).setCell ⟨w.heap.size + 1, 5, none⟩ (.int .i64 c.rk)).setCell ⟨w.heap.size + 1, 6, none⟩ (.int .i64 c.rl)).setCell ⟨w.heap.size + 1, 7, none⟩ (.string c.rn)).setCell ⟨w.heap.size + 1, 8, none⟩ (.slice a1 c.re.length k1)).setCell ⟨w.heap.size + 1, 9, none⟩ (.slice a2 c.ac.length k2)) w.heap.size c (.slice a1 c.re.length k1) (.slice a2 c.ac.length k2)) := (O2.out.kept (fun g hg _ => HB g (by omega))).mono (by omega)
  clear GF0 HB
  go_wp2_with fail
  generalize ((((((((((u2.setCell ⟨w.heap.size + 1, 0, none⟩ (.int .i64 c.id)).setCell ⟨w.heap.size + 1, 1, none⟩ (.int .i64 c.st)).setCell ⟨w.heap.size + 1, 2, none⟩ (.bool c.bu)).setCell ⟨w.heap.size + 1, 3, none⟩ (.int .i64 c.rc)).setCell ⟨w.heap.size + 1, 4, none⟩ (.int .i64 c.rs)).setCell ⟨w.heap.size + 1, 5, none⟩ (.int .i64 c.rk)).setCell ⟨w.heap.size + 1, 6, none⟩ (.int .i64 c.rl)).setCell ⟨w.heap.size + 1, 7, none⟩ (.string c.rn)).setCell ⟨w.heap.size + 1, 8, none⟩ (.slice a1 c.re.length k1)).setCell ⟨w.heap.size + 1, 9, none⟩ (.slice a2 c.ac.length k2)) = wf at AF GF KF ⊢
  have d0 := (Rg.blk_cell AF 0 (x := .int .i64 c.id) rfl).1
  have d1 := (Rg.blk_cell AF 1 (x := .int .i64 c.st) rfl).1
  have d2 := (Rg.blk_cell AF 2 (x := .bool c.bu) rfl).1
  have d3 := (Rg.blk_cell AF 3 (x := .int .i64 c.rc) rfl).1
  have d4 := (Rg.blk_cell AF 4 (x := .int .i64 c.rs) rfl).1
  have d5 := (Rg.blk_cell AF 5 (x := .int .i64 c.rk) rfl).1
  have d6 := (Rg.blk_cell AF 6 (x := .int .i64 c.rl) rfl).1
  have d7 := (Rg.blk_cell AF 7 (x := .string c.rn) rfl).1
  have d8 := (Rg.blk_cell AF 8 (x := .slice a1 c.re.length k1) rfl).1
  have d9 := (Rg.blk_cell AF 9 (x := .slice a2 c.ac.length k2) rfl).1
  exact bodyPost_ret (v := .agg #[.int .i64 c.id, .int .i64 c.st, .bool c.bu, .int .i64 c.rc, .int .i64 c.rs, .int .i64 c.rk, .int .i64 c.rl, .string c.rn, .slice a1 c.re.length k1, .slice a2 c.ac.length k2]) (by simp [results, Tryd.results16, go_sem, d0, d1, d2, d3, d4, d5, d6, d7, d8, d9]) rfl ⟨_, _, rfl, KF, GF⟩
end Go.Proofs.YtiflfcpoajijaaaDoor.Cl

/- What the states of a client hear. -/
namespace Go.Proofs.YtiflfcpoajijaaaDoor.Cl
open Go.RowKit Go.Proofs.YtiflfcpoajijaaaDoor.Sl Go.Proofs.YtiflfcpoajijaaaDoor.Rg
open Go.Proofs.YtiflfcpoajijaaaDoor.Gy (Re)
open Go.Proofs.YtiflfcpoajijaaaDoor.Rk (An anV ccR ccA ccC cc_cases implCountReplies_any)
open Go.Proofs.YtiflfcpoajijaaaDoor.Rq (reqB implRequestOK_any)
open Go.Proofs.YtiflfcpoajijaaaDoor.Ry (anB answerOK_any rokB lokB implReplyOK_any)
open Go.Proofs.YtiflfcpoajijaaaDoor.Rm (inR within_any)
open Go.Proofs.YtiflfcpoajijaaaDoor.Tm (fCode fOut f_cases implFaultsOf_any)
open Go.Proofs.YtiflfcpoajijaaaDoor.Sh (KTab KTab.below)

open Go.Proofs.YtiflfcpoajijaaaDoor.Rr11 (OwnR)
open Go.Proofs.YtiflfcpoajijaaaDoor.Ox (OwnX)
set_option maxRecDepth 100000 in
set_option maxHeartbeats 1600000 in
theorem client_waiting (c : Cd) (ar aa : Option Addr) (nr kr na ka : Nat) (w : World) :
    Calls Tryd.prog 67 #[clV c (.slice ar nr kr) (.slice aa na ka)] w fun e w' => e = .returned (clV c (.slice ar nr kr) (.slice aa na ka)) ∧ Below w.heap.size w w' := by
  have S0 : Hid _ := co_start 70 w #[.int .i64 c.id, .int .i64 c.st, .bool c.bu, .int .i64 c.rc, .int .i64 c.rs, .int .i64 c.rk, .int .i64 c.rl, .string c.rn, .slice ar nr kr, .slice aa na ka]
  unfold clV
  go_enter Tryd.func67, Tryd.ntmps67
  go_upto_region 1 with fail
  generalize (w.alloc (.cells #[.int .i64 c.id, .int .i64 c.st, .bool c.bu, .int .i64 c.rc, .int .i64 c.rs, .int .i64 c.rk, .int .i64 c.rl, .string c.rn, .slice ar nr kr, .slice aa na ka] 70)).alloc (.cells #[.int .i64 0, .int .i64 0, .bool false, .int .i64 0, .int .i64 0, .int .i64 0, .int .i64 0, .string ⟨#[]⟩, .slice none 0 0, .slice none 0 0] 28) = wb at S0 ⊢
  have l0 := (Rg.blk_cell S0.out.bx 0 (x := .int .i64 c.id) rfl).1
  have l1 := (Rg.blk_cell S0.out.bx 1 (x := .int .i64 c.st) rfl).1
  have l2 := (Rg.blk_cell S0.out.bx 2 (x := .bool c.bu) rfl).1
  have l3 := (Rg.blk_cell S0.out.bx 3 (x := .int .i64 c.rc) rfl).1
  have l4 := (Rg.blk_cell S0.out.bx 4 (x := .int .i64 c.rs) rfl).1
  have l5 := (Rg.blk_cell S0.out.bx 5 (x := .int .i64 c.rk) rfl).1
  have l6 := (Rg.blk_cell S0.out.bx 6 (x := .int .i64 c.rl) rfl).1
  have l7 := (Rg.blk_cell S0.out.bx 7 (x := .string c.rn) rfl).1
  have l8 := (Rg.blk_cell S0.out.bx 8 (x := .slice ar nr kr) rfl).1
  have l9 := (Rg.blk_cell S0.out.bx 9 (x := .slice aa na ka) rfl).1
  obtain ⟨z0, fz0⟩ := Rg.blk_cell S0.out.rs 0 (x := .int .i64 0) rfl
  obtain ⟨z1, fz1⟩ := Rg.blk_cell S0.out.rs 1 (x := .int .i64 0) rfl
  obtain ⟨z2, fz2⟩ := Rg.blk_cell S0.out.rs 2 (x := .bool false) rfl
  obtain ⟨z3, fz3⟩ := Rg.blk_cell S0.out.rs 3 (x := .int .i64 0) rfl
  obtain ⟨z4, fz4⟩ := Rg.blk_cell S0.out.rs 4 (x := .int .i64 0) rfl
  obtain ⟨z5, fz5⟩ := Rg.blk_cell S0.out.rs 5 (x := .int .i64 0) rfl
  obtain ⟨z6, fz6⟩ := Rg.blk_cell S0.out.rs 6 (x := .int .i64 0) rfl
  obtain ⟨z7, fz7⟩ := Rg.blk_cell S0.out.rs 7 (x := .string ⟨#[]⟩) rfl
  obtain ⟨z8, fz8⟩ := Rg.blk_cell S0.out.rs 8 (x := .slice none 0 0) rfl
  obtain ⟨z9, fz9⟩ := Rg.blk_cell S0.out.rs 9 (x := .slice none 0 0) rfl
  obtain ⟨AF, HB, GF0⟩ := set10 (.int .i64 0) (.int .i64 0) (.bool false) (.int .i64 0) (.int .i64 0) (.int .i64 0) (.int .i64 0) (.string ⟨#[]⟩) (.slice none 0 0) (.slice none 0 0) (.int .i64 c.id) (.int .i64 c.st) (.bool c.bu) (.int .i64 c.rc) (.int .i64 c.rs) (.int .i64 c.rk) (.int .i64 c.rl) (.string c.rn) (.slice ar nr kr) (.slice aa na ka) S0.out.rs
  have GF := GF0 S0.out.be (Nat.le_succ w.heap.size)
  clear GF0 HB
  go_wp2_with fail
  generalize ((((((((((wb.setCell ⟨w.heap.size + 1, 0, none⟩ (.int .i64 c.id)).setCell ⟨w.heap.size + 1, 1, none⟩ (.int .i64 c.st)).setCell ⟨w.heap.size + 1, 2, none⟩ (.bool c.bu)).setCell ⟨w.heap.size + 1, 3, none⟩ (.int .i64 c.rc)).setCell ⟨w.heap.size + 1, 4, none⟩ (.int .i64 c.rs)).setCell ⟨w.heap.size + 1, 5, none⟩ (.int .i64 c.rk)).setCell ⟨w.heap.size + 1, 6, none⟩ (.int .i64 c.rl)).setCell ⟨w.heap.size + 1, 7, none⟩ (.string c.rn)).setCell ⟨w.heap.size + 1, 8, none⟩ (.slice ar nr kr)).setCell ⟨w.heap.size + 1, 9, none⟩ (.slice aa na ka)) = wf at AF GF ⊢
  have d0 := (Rg.blk_cell AF 0 (x := .int .i64 c.id) rfl).1
  have d1 := (Rg.blk_cell AF 1 (x := .int .i64 c.st) rfl).1
  have d2 := (Rg.blk_cell AF 2 (x := .bool c.bu) rfl).1
  have d3 := (Rg.blk_cell AF 3 (x := .int .i64 c.rc) rfl).1
  have d4 := (Rg.blk_cell AF 4 (x := .int .i64 c.rs) rfl).1
  have d5 := (Rg.blk_cell AF 5 (x := .int .i64 c.rk) rfl).1
  have d6 := (Rg.blk_cell AF 6 (x := .int .i64 c.rl) rfl).1
  have d7 := (Rg.blk_cell AF 7 (x := .string c.rn) rfl).1
  have d8 := (Rg.blk_cell AF 8 (x := .slice ar nr kr) rfl).1
  have d9 := (Rg.blk_cell AF 9 (x := .slice aa na ka) rfl).1
  exact bodyPost_ret (v := .agg #[.int .i64 c.id, .int .i64 c.st, .bool c.bu, .int .i64 c.rc, .int .i64 c.rs, .int .i64 c.rk, .int .i64 c.rl, .string c.rn, .slice ar nr kr, .slice aa na ka]) (by simp [results, Tryd.results67, go_sem, d0, d1, d2, d3, d4, d5, d6, d7, d8, d9]) rfl ⟨rfl, GF⟩
set_option maxRecDepth 100000 in
set_option maxHeartbeats 1600000 in
theorem client_resting (c : Cd) (ar aa : Option Addr) (nr kr na ka : Nat) (w : World) :
    Calls Tryd.prog 89 #[clV c (.slice ar nr kr) (.slice aa na ka)] w fun e w' => e = .returned (clV c (.slice ar nr kr) (.slice aa na ka)) ∧ Below w.heap.size w w' := by
  have S0 : Hid _ := co_start 71 w #[.int .i64 c.id, .int .i64 c.st, .bool c.bu, .int .i64 c.rc, .int .i64 c.rs, .int .i64 c.rk, .int .i64 c.rl, .string c.rn, .slice ar nr kr, .slice aa na ka]
  unfold clV
  go_enter Tryd.func89, Tryd.ntmps89
  go_upto_region 1 with fail
  generalize (w.alloc (.cells #[.int .i64 c.id, .int .i64 c.st, .bool c.bu, .int .i64 c.rc, .int .i64 c.rs, .int .i64 c.rk, .int .i64 c.rl, .string c.rn, .slice ar nr kr, .slice aa na ka] 71)).alloc (.cells #[.int .i64 0, .int .i64 0, .bool false, .int .i64 0, .int .i64 0, .int .i64 0, .int .i64 0, .string ⟨#[]⟩, .slice none 0 0, .slice none 0 0] 28) = wb at S0 ⊢
  have l0 := (Rg.blk_cell S0.out.bx 0 (x := .int .i64 c.id) rfl).1
  have l1 := (Rg.blk_cell S0.out.bx 1 (x := .int .i64 c.st) rfl).1
  have l2 := (Rg.blk_cell S0.out.bx 2 (x := .bool c.bu) rfl).1
  have l3 := (Rg.blk_cell S0.out.bx 3 (x := .int .i64 c.rc) rfl).1
  have l4 := (Rg.blk_cell S0.out.bx 4 (x := .int .i64 c.rs) rfl).1
  have l5 := (Rg.blk_cell S0.out.bx 5 (x := .int .i64 c.rk) rfl).1
  have l6 := (Rg.blk_cell S0.out.bx 6 (x := .int .i64 c.rl) rfl).1
  have l7 := (Rg.blk_cell S0.out.bx 7 (x := .string c.rn) rfl).1
  have l8 := (Rg.blk_cell S0.out.bx 8 (x := .slice ar nr kr) rfl).1
  have l9 := (Rg.blk_cell S0.out.bx 9 (x := .slice aa na ka) rfl).1
  obtain ⟨z0, fz0⟩ := Rg.blk_cell S0.out.rs 0 (x := .int .i64 0) rfl
  obtain ⟨z1, fz1⟩ := Rg.blk_cell S0.out.rs 1 (x := .int .i64 0) rfl
  obtain ⟨z2, fz2⟩ := Rg.blk_cell S0.out.rs 2 (x := .bool false) rfl
  obtain ⟨z3, fz3⟩ := Rg.blk_cell S0.out.rs 3 (x := .int .i64 0) rfl
  obtain ⟨z4, fz4⟩ := Rg.blk_cell S0.out.rs 4 (x := .int .i64 0) rfl
  obtain ⟨z5, fz5⟩ := Rg.blk_cell S0.out.rs 5 (x := .int .i64 0) rfl
  obtain ⟨z6, fz6⟩ := Rg.blk_cell S0.out.rs 6 (x := .int .i64 0) rfl
  obtain ⟨z7, fz7⟩ := Rg.blk_cell S0.out.rs 7 (x := .string ⟨#[]⟩) rfl
  obtain ⟨z8, fz8⟩ := Rg.blk_cell S0.out.rs 8 (x := .slice none 0 0) rfl
  obtain ⟨z9, fz9⟩ := Rg.blk_cell S0.out.rs 9 (x := .slice none 0 0) rfl
  obtain ⟨AF, HB, GF0⟩ := set10 (.int .i64 0) (.int .i64 0) (.bool false) (.int .i64 0) (.int .i64 0) (.int .i64 0) (.int .i64 0) (.string ⟨#[]⟩) (.slice none 0 0) (.slice none 0 0) (.int .i64 c.id) (.int .i64 c.st) (.bool c.bu) (.int .i64 c.rc) (.int .i64 c.rs) (.int .i64 c.rk) (.int .i64 c.rl) (.string c.rn) (.slice ar nr kr) (.slice aa na ka) S0.out.rs
  have GF := GF0 S0.out.be (Nat.le_succ w.heap.size)
  clear GF0 HB
  go_wp2_with fail
  generalize ((((((((((wb.setCell ⟨w.heap.size + 1, 0, none⟩ (.int .i64 c.id)).setCell ⟨w.heap.size + 1, 1, none⟩ (.int .i64 c.st)).setCell ⟨w.heap.size + 1, 2, none⟩ (.bool c.bu)).setCell ⟨w.heap.size + 1, 3, none⟩ (.int .i64 c.rc)).setCell ⟨w.heap.size + 1, 4, none⟩ (.int .i64 c.rs)).setCell ⟨w.heap.size + 1, 5, none⟩ (.int .i64 c.rk)).setCell ⟨w.heap.size + 1, 6, none⟩ (.int .i64 c.rl)).setCell ⟨w.heap.size + 1, 7, none⟩ (.string c.rn)).setCell ⟨w.heap.size + 1, 8, none⟩ (.slice ar nr kr)).setCell ⟨w.heap.size + 1, 9, none⟩ (.slice aa na ka)) = wf at AF GF ⊢
  have d0 := (Rg.blk_cell AF 0 (x := .int .i64 c.id) rfl).1
  have d1 := (Rg.blk_cell AF 1 (x := .int .i64 c.st) rfl).1
  have d2 := (Rg.blk_cell AF 2 (x := .bool c.bu) rfl).1
  have d3 := (Rg.blk_cell AF 3 (x := .int .i64 c.rc) rfl).1
  have d4 := (Rg.blk_cell AF 4 (x := .int .i64 c.rs) rfl).1
  have d5 := (Rg.blk_cell AF 5 (x := .int .i64 c.rk) rfl).1
  have d6 := (Rg.blk_cell AF 6 (x := .int .i64 c.rl) rfl).1
  have d7 := (Rg.blk_cell AF 7 (x := .string c.rn) rfl).1
  have d8 := (Rg.blk_cell AF 8 (x := .slice ar nr kr) rfl).1
  have d9 := (Rg.blk_cell AF 9 (x := .slice aa na ka) rfl).1
  exact bodyPost_ret (v := .agg #[.int .i64 c.id, .int .i64 c.st, .bool c.bu, .int .i64 c.rc, .int .i64 c.rs, .int .i64 c.rk, .int .i64 c.rl, .string c.rn, .slice ar nr kr, .slice aa na ka]) (by simp [results, Tryd.results89, go_sem, d0, d1, d2, d3, d4, d5, d6, d7, d8, d9]) rfl ⟨rfl, GF⟩
set_option maxRecDepth 100000 in
set_option maxHeartbeats 1600000 in
theorem restH_any (n : Int) (c : Cd) (ar aa : Option Addr) (nr kr na ka : Nat) (x : Re) (w : World) :
    Calls Tryd.prog 90 #[clV c (.slice ar nr kr) (.slice aa na ka), .int .i64 n, Gy.oneV x] w fun e w' => e = .returned (.tuple #[.iface 71 (clV c (.slice ar nr kr) (.slice aa na ka)), .int .i64 16]) ∧ Below w.heap.size w w' := by
  have HX : Hid (∀ W, Below ((w.alloc (.cells #[.int .i64 c.id, .int .i64 c.st, .bool c.bu, .int .i64 c.rc, .int .i64 c.rs, .int .i64 c.rk, .int .i64 c.rl, .string c.rn, .slice ar nr kr, .slice aa na ka] 71)).alloc (.cells #[.int .i64 x.nd, .int .i64 x.cl, .int .i64 x.st, .int .i64 x.kd, .int .i64 x.tk, .int .i64 x.hd, .int .i64 x.ex, .string x.mc] 39)).heap.size ((w.alloc (.cells #[.int .i64 c.id, .int .i64 c.st, .bool c.bu, .int .i64 c.rc, .int .i64 c.rs, .int .i64 c.rk, .int .i64 c.rl, .string c.rn, .slice ar nr kr, .slice aa na ka] 71)).alloc (.cells #[.int .i64 x.nd, .int .i64 x.cl, .int .i64 x.st, .int .i64 x.kd, .int .i64 x.tk, .int .i64 x.hd, .int .i64 x.ex, .string x.mc] 39)) W → ((W.cell? ⟨w.heap.size, 0, none⟩ = some (.int .i64 c.id) ∧ W.cell? ⟨w.heap.size, 1, none⟩ = some (.int .i64 c.st) ∧ W.cell? ⟨w.heap.size, 2, none⟩ = some (.bool c.bu) ∧ W.cell? ⟨w.heap.size, 3, none⟩ = some (.int .i64 c.rc) ∧ W.cell? ⟨w.heap.size, 4, none⟩ = some (.int .i64 c.rs) ∧ W.cell? ⟨w.heap.size, 5, none⟩ = some (.int .i64 c.rk) ∧ W.cell? ⟨w.heap.size, 6, none⟩ = some (.int .i64 c.rl) ∧ W.cell? ⟨w.heap.size, 7, none⟩ = some (.string c.rn) ∧ W.cell? ⟨w.heap.size, 8, none⟩ = some (.slice ar nr kr) ∧ W.cell? ⟨w.heap.size, 9, none⟩ = some (.slice aa na ka)) ∧ (W.cell? ⟨w.heap.size + 1, 0, none⟩ = some (.int .i64 x.nd) ∧ W.cell? ⟨w.heap.size + 1, 1, none⟩ = some (.int .i64 x.cl) ∧ W.cell? ⟨w.heap.size + 1, 2, none⟩ = some (.int .i64 x.st) ∧ W.cell? ⟨w.heap.size + 1, 3, none⟩ = some (.int .i64 x.kd) ∧ W.cell? ⟨w.heap.size + 1, 4, none⟩ = some (.int .i64 x.tk) ∧ W.cell? ⟨w.heap.size + 1, 5, none⟩ = some (.int .i64 x.hd) ∧ W.cell? ⟨w.heap.size + 1, 6, none⟩ = some (.int .i64 x.ex) ∧ W.cell? ⟨w.heap.size + 1, 7, none⟩ = some (.string x.mc))) ∧ Below w.heap.size w W) := fun W hW => by
    obtain ⟨h1, h2, h3⟩ := Gy.two hW
    exact ⟨⟨⟨(Rg.blk_cell h1 0 rfl).1, (Rg.blk_cell h1 1 rfl).1, (Rg.blk_cell h1 2 rfl).1, (Rg.blk_cell h1 3 rfl).1, (Rg.blk_cell h1 4 rfl).1, (Rg.blk_cell h1 5 rfl).1, (Rg.blk_cell h1 6 rfl).1, (Rg.blk_cell h1 7 rfl).1, (Rg.blk_cell h1 8 rfl).1, (Rg.blk_cell h1 9 rfl).1⟩, ⟨(Rg.blk_cell h2 0 rfl).1, (Rg.blk_cell h2 1 rfl).1, (Rg.blk_cell h2 2 rfl).1, (Rg.blk_cell h2 3 rfl).1, (Rg.blk_cell h2 4 rfl).1, (Rg.blk_cell h2 5 rfl).1, (Rg.blk_cell h2 6 rfl).1, (Rg.blk_cell h2 7 rfl).1⟩⟩, h3⟩
  unfold clV Gy.oneV
  go_enter Tryd.func90, Tryd.ntmps90
  go_upto_region 1 with fail
  generalize ((w.alloc (.cells #[.int .i64 c.id, .int .i64 c.st, .bool c.bu, .int .i64 c.rc, .int .i64 c.rs, .int .i64 c.rk, .int .i64 c.rl, .string c.rn, .slice ar nr kr, .slice aa na ka] 71)).alloc (.cells #[.int .i64 x.nd, .int .i64 x.cl, .int .i64 x.st, .int .i64 x.kd, .int .i64 x.tk, .int .i64 x.hd, .int .i64 x.ex, .string x.mc] 39)) = wb at HX ⊢
  obtain ⟨⟨⟨c0, c1, c2, c3, c4, c5, c6, c7, c8, c9⟩, ⟨e0, e1, e2, e3, e4, e5, e6, e7⟩⟩, g0⟩ := HX.out wb (Below.refl _ _)
  clear HX
  go_wp2_with fail
  exact bodyPost_ret (v := .tuple #[.iface 71 (.agg #[.int .i64 c.id, .int .i64 c.st, .bool c.bu, .int .i64 c.rc, .int .i64 c.rs, .int .i64 c.rk, .int .i64 c.rl, .string c.rn, .slice ar nr kr, .slice aa na ka]), .int .i64 16]) (by simp [results, Tryd.results90, go_sem]) rfl ⟨rfl, g0⟩
def addR (c : Cd) (x : Re) : Cd := ⟨c.id, c.st, c.bu, c.rc, c.rs, c.rk, c.rl, c.rn, c.re ++ [x], c.ac⟩
def fin (c : Cd) (a : An) : Cd := ⟨c.id, c.st, false, 0, 0, 0, 0, ⟨#[]⟩, [], c.ac ++ [a]⟩
theorem kinds {w : World} {B B' : Nat} {v u : Value} {xs : List Re} {ys : List An} (h : OwnR w B v xs) (g : OwnX w B' u ys) : ∀ k, u.ownBlock = some k → v.ownBlock ≠ some k := by
  intro k hu hv
  rcases h.2 with ⟨rfl, _⟩ | ⟨b, cap, cur, rfl, _, hb, _⟩
  · cases hv
  · rcases g.2 with ⟨rfl, _⟩ | ⟨b', cap', cur', rfl, _, hb', _⟩
    · cases hu
    · have e1 : b = k := by simpa [Value.ownBlock] using hv
      have e2 : b' = k := by simpa [Value.ownBlock] using hu
      subst e1 e2
      rw [hb] at hb'
      have := (Obj.cells.injEq .. ▸ Option.some.inj hb').2.1
      exact absurd this (by decide)
theorem rowOneX (W : World) (a : An) : Ga.Row (W.alloc (.cells #[.int .i64 a.1, .int .i64 a.2.1, .int .i64 a.2.2.1, .int .i64 a.2.2.2] 35)) (.slice (some ⟨W.heap.size, 0, none⟩) 1 1) [a] := by
  refine ⟨_, 1, rfl, .inr ⟨W.heap.size, 0, rfl, Nat.le_refl _, by simp, fun i x hi => ?_⟩⟩
  have hh := heap_alloc_new W (.cells #[.int .i64 a.1, .int .i64 a.2.1, .int .i64 a.2.2.1, .int .i64 a.2.2.2] 35)
  obtain rfl : i = 0 := by have := (List.getElem?_eq_some_iff.1 hi).1; simp at this; exact this
  simp at hi
  subst hi
  exact ⟨(Rg.blk_cell hh 0 rfl).1, (Rg.blk_cell hh 1 rfl).1, (Rg.blk_cell hh 2 rfl).1, (Rg.blk_cell hh 3 rfl).1⟩
theorem rowOneR (W : World) (x : Re) : Gy.Row (W.alloc (.cells #[.int .i64 x.nd, .int .i64 x.cl, .int .i64 x.st, .int .i64 x.kd, .int .i64 x.tk, .int .i64 x.hd, .int .i64 x.ex, .string x.mc] 39)) (.slice (some ⟨W.heap.size, 0, none⟩) 1 1) [x] := by
  refine ⟨_, 1, rfl, .inr ⟨W.heap.size, 0, rfl, Nat.le_refl _, by simp, fun i y hi => ?_⟩⟩
  have hh := heap_alloc_new W (.cells #[.int .i64 x.nd, .int .i64 x.cl, .int .i64 x.st, .int .i64 x.kd, .int .i64 x.tk, .int .i64 x.hd, .int .i64 x.ex, .string x.mc] 39)
  obtain rfl : i = 0 := by have := (List.getElem?_eq_some_iff.1 hi).1; simp at this; exact this
  simp at hi
  subst hi
  exact ⟨(Rg.blk_cell hh 0 rfl).1, (Rg.blk_cell hh 1 rfl).1, (Rg.blk_cell hh 2 rfl).1, (Rg.blk_cell hh 3 rfl).1, (Rg.blk_cell hh 4 rfl).1, (Rg.blk_cell hh 5 rfl).1, (Rg.blk_cell hh 6 rfl).1, (Rg.blk_cell hh 7 rfl).1⟩
set_option maxRecDepth 100000 in
set_option maxHeartbeats 1600000 in
theorem answered_any (c : Cd) (a : An) (vr va : Value) (B : Nat) (w : World) (h : Mine w B c vr va) (hB : B ≤ w.heap.size) (hl : c.ac.length ≤ 1048576) :
    Calls Tryd.prog 73 #[clV c vr va, anV a] w fun e w' => ∃ va', e = .returned (.iface 71 (clV (fin c a) (.slice none 0 0) va')) ∧ Hid (Mine w' B (fin c a) (.slice none 0 0) va') ∧ Below B w w' := by
  obtain ⟨j0, hj0, hy0, hy1, hy2⟩ := info_parts Ox.infoX
  have HO : Hid (OwnX w B va c.ac ∧ B ≤ w.heap.size ∧ c.ac.length + 1 ≤ 3000000) := ⟨h.2, hB, by omega⟩
  obtain ⟨ar, kr, rfl⟩ := h.1.slice
  obtain ⟨aa, ka, rfl⟩ := h.2.slice
  clear h hB
  have HN0 : Hid (∀ (W : World) v, OwnX W B v (c.ac ++ [a]) → Mine W B (fin c a) (.slice none 0 0) v) := fun W v hv => ⟨Rr11.OwnR.nil _ _, hv⟩
  obtain ⟨L, HL⟩ : ∃ L, Hid (c.ac ++ [a] = L) := ⟨_, rfl⟩
  have HN : Hid (∀ (W : World) v, OwnX W B v L → Mine W B (fin c a) (.slice none 0 0) v) := fun W v hv => HN0.out W v (by rw [HL.out]; exact hv)
  clear HN0
  have HX : Hid (∀ W, Below ((w.alloc (.cells #[.int .i64 c.id, .int .i64 c.st, .bool c.bu, .int .i64 c.rc, .int .i64 c.rs, .int .i64 c.rk, .int .i64 c.rl, .string c.rn, .slice ar c.re.length kr, .slice aa c.ac.length ka] 70)).alloc (.cells #[.int .i64 a.1, .int .i64 a.2.1, .int .i64 a.2.2.1, .int .i64 a.2.2.2] 35)).heap.size ((w.alloc (.cells #[.int .i64 c.id, .int .i64 c.st, .bool c.bu, .int .i64 c.rc, .int .i64 c.rs, .int .i64 c.rk, .int .i64 c.rl, .string c.rn, .slice ar c.re.length kr, .slice aa c.ac.length ka] 70)).alloc (.cells #[.int .i64 a.1, .int .i64 a.2.1, .int .i64 a.2.2.1, .int .i64 a.2.2.2] 35)) W → ((W.cell? ⟨w.heap.size, 0, none⟩ = some (.int .i64 c.id) ∧ W.cell? ⟨w.heap.size, 1, none⟩ = some (.int .i64 c.st) ∧ W.cell? ⟨w.heap.size, 2, none⟩ = some (.bool c.bu) ∧ W.cell? ⟨w.heap.size, 3, none⟩ = some (.int .i64 c.rc) ∧ W.cell? ⟨w.heap.size, 4, none⟩ = some (.int .i64 c.rs) ∧ W.cell? ⟨w.heap.size, 5, none⟩ = some (.int .i64 c.rk) ∧ W.cell? ⟨w.heap.size, 6, none⟩ = some (.int .i64 c.rl) ∧ W.cell? ⟨w.heap.size, 7, none⟩ = some (.string c.rn) ∧ W.cell? ⟨w.heap.size, 8, none⟩ = some (.slice ar c.re.length kr) ∧ W.cell? ⟨w.heap.size, 9, none⟩ = some (.slice aa c.ac.length ka)) ∧ (W.cell? ⟨w.heap.size + 1, 0, none⟩ = some (.int .i64 a.1) ∧ W.cell? ⟨w.heap.size + 1, 1, none⟩ = some (.int .i64 a.2.1) ∧ W.cell? ⟨w.heap.size + 1, 2, none⟩ = some (.int .i64 a.2.2.1) ∧ W.cell? ⟨w.heap.size + 1, 3, none⟩ = some (.int .i64 a.2.2.2))) ∧ Below w.heap.size w W) := fun W hW => by
    obtain ⟨h1, h2, h3⟩ := Gy.two hW
    exact ⟨⟨⟨(Rg.blk_cell h1 0 rfl).1, (Rg.blk_cell h1 1 rfl).1, (Rg.blk_cell h1 2 rfl).1, (Rg.blk_cell h1 3 rfl).1, (Rg.blk_cell h1 4 rfl).1, (Rg.blk_cell h1 5 rfl).1, (Rg.blk_cell h1 6 rfl).1, (Rg.blk_cell h1 7 rfl).1, (Rg.blk_cell h1 8 rfl).1, (Rg.blk_cell h1 9 rfl).1⟩, ⟨(Rg.blk_cell h2 0 rfl).1, (Rg.blk_cell h2 1 rfl).1, (Rg.blk_cell h2 2 rfl).1, (Rg.blk_cell h2 3 rfl).1⟩⟩, h3⟩
  unfold clV anV fin
  go_enter Tryd.func73, Tryd.ntmps73
  go_upto_region 1 with fail
  generalize ((w.alloc (.cells #[.int .i64 c.id, .int .i64 c.st, .bool c.bu, .int .i64 c.rc, .int .i64 c.rs, .int .i64 c.rk, .int .i64 c.rl, .string c.rn, .slice ar c.re.length kr, .slice aa c.ac.length ka] 70)).alloc (.cells #[.int .i64 a.1, .int .i64 a.2.1, .int .i64 a.2.2.1, .int .i64 a.2.2.2] 35)) = wb at HX ⊢
  obtain ⟨⟨⟨c0, c1, c2, c3, c4, c5, c6, c7, c8, c9⟩, ⟨e0, e1, e2, e3⟩⟩, g0⟩ := HX.out wb (Below.refl _ _)
  have G0 : Hid (Below w.heap.size w wb) := g0
  clear g0
  have HW : Hid (∀ W, Below w.heap.size w W → OwnX W B (.slice aa c.ac.length ka) c.ac ∧ B ≤ W.heap.size) := fun W hW => ⟨HO.out.1.below hW, Nat.le_trans HO.out.2.1 hW.size⟩
  have HBX : Hid (w.heap.size < wb.heap.size ∧ (Value.slice aa c.ac.length ka).ownBlock ≠ some w.heap.size) := ⟨World.block_lt_of_cell? wb _ c0, fun e => by have := (HO.out.1.lt _ e).2; omega⟩
  have HSS : Hid (∀ W, Below wb.heap.size wb W → (W.cell? ⟨w.heap.size, 0, none⟩ = some (.int .i64 c.id) ∧ W.cell? ⟨w.heap.size, 1, none⟩ = some (.int .i64 c.st) ∧ W.cell? ⟨w.heap.size, 9, none⟩ = some (.slice aa c.ac.length ka)) ∧ W.cell? ⟨w.heap.size + 1, 0, none⟩ = some (.int .i64 a.1) ∧ W.cell? ⟨w.heap.size + 1, 1, none⟩ = some (.int .i64 a.2.1) ∧ W.cell? ⟨w.heap.size + 1, 2, none⟩ = some (.int .i64 a.2.2.1) ∧ W.cell? ⟨w.heap.size + 1, 3, none⟩ = some (.int .i64 a.2.2.2)) := fun W hW => by
    obtain ⟨⟨⟨c0, c1, c2, c3, c4, c5, c6, c7, c8, c9⟩, ⟨e0, e1, e2, e3⟩⟩, _⟩ := HX.out W hW
    exact ⟨⟨c0, c1, c9⟩, e0, e1, e2, e3⟩
  have HB1 : Hid (wb.heap[w.heap.size]? = wb.heap[w.heap.size]? ∧ w.heap.size + 1 < wb.heap.size ∧ (Value.slice aa c.ac.length ka).ownBlock ≠ some (w.heap.size + 1)) := ⟨rfl, World.block_lt_of_cell? wb _ e0, fun e => by have := (HO.out.1.lt _ e).2; omega⟩
  go_region_held_law (fun W => (W.cell? ⟨w.heap.size, 0, none⟩ = some (.int .i64 c.id) ∧ W.cell? ⟨w.heap.size, 1, none⟩ = some (.int .i64 c.st) ∧ W.cell? ⟨w.heap.size, 9, none⟩ = some (.slice aa c.ac.length ka)) ∧ W.cell? ⟨w.heap.size + 1, 0, none⟩ = some (.int .i64 a.1) ∧ W.cell? ⟨w.heap.size + 1, 1, none⟩ = some (.int .i64 a.2.1) ∧ W.cell? ⟨w.heap.size + 1, 2, none⟩ = some (.int .i64 a.2.2.1) ∧ W.cell? ⟨w.heap.size + 1, 3, none⟩ = some (.int .i64 a.2.2.2)) (first | assumption | exact HSS.out _ (Below.refl _ _).drew | exact HSS.out _ ((Below.refl _ _).drew.alloc (Nat.le_refl _) _))
    (first | (refine Ox.step_app (by rfl) _ _ 26 (by rfl) j0 Tryd.underlying26 hj0 hy0 hy1 hy2 B _ _ _ c.ac [a] (by rfl) (by rfl) (HW.out _ (G0.out.drew.alloc G0.out.size _)).1 (rowOneX _ a) (HW.out _ (G0.out.drew.alloc G0.out.size _)).2 HO.out.2.2 ?_; intro v5 w5 o5 f5 b5; rw [HL.out] at o5; obtain ⟨a5, k5, rfl⟩ := o5.slice; have q5 : w5.heap[w.heap.size]? = wb.heap[w.heap.size]? := (f5 w.heap.size (by have := HBX.out.1; simp; omega) HBX.out.2).trans (Below.heap_alloc _ _ _ HBX.out.1); have q6 : w5.heap[w.heap.size + 1]? = wb.heap[w.heap.size + 1]? := (f5 (w.heap.size + 1) (by have := HB1.out.2.1; simp; omega) HB1.out.2.2).trans (Below.heap_alloc _ _ _ HB1.out.2.1); have sk : (w5.cell? ⟨w.heap.size, 0, none⟩ = some (.int .i64 c.id) ∧ w5.cell? ⟨w.heap.size, 1, none⟩ = some (.int .i64 c.st) ∧ w5.cell? ⟨w.heap.size, 9, none⟩ = some (.slice aa c.ac.length ka)) ∧ w5.cell? ⟨w.heap.size + 1, 0, none⟩ = some (.int .i64 a.1) ∧ w5.cell? ⟨w.heap.size + 1, 1, none⟩ = some (.int .i64 a.2.1) ∧ w5.cell? ⟨w.heap.size + 1, 2, none⟩ = some (.int .i64 a.2.2.1) ∧ w5.cell? ⟨w.heap.size + 1, 3, none⟩ = some (.int .i64 a.2.2.2) := ⟨⟨(cell_blk q5 0).trans c0, (cell_blk q5 1).trans c1, (cell_blk q5 9).trans c9⟩, (cell_blk q6 0).trans e0, (cell_blk q6 1).trans e1, (cell_blk q6 2).trans e2, (cell_blk q6 3).trans e3⟩; have G5 : Hid (Below B w w5) := ((G0.out.drew.alloc G0.out.size _).mono HO.out.2.1).trans b5; clear f5 b5; try go_simp))
  all_goals
    clear q5 q6 sk
    go_wp2_with fail
    go_ret
    exact ⟨_, rfl, HN.out _ _ o5, G5.out⟩
end Go.Proofs.YtiflfcpoajijaaaDoor.Cl

/- A waiting client hears a reply. -/
namespace Go.Proofs.YtiflfcpoajijaaaDoor.Cl
open Go.RowKit Go.Proofs.YtiflfcpoajijaaaDoor.Sl Go.Proofs.YtiflfcpoajijaaaDoor.Rg
open Go.Proofs.YtiflfcpoajijaaaDoor.Gy (Re)
open Go.Proofs.YtiflfcpoajijaaaDoor.Rk (An anV ccR ccA ccC cc_cases implCountReplies_any)
open Go.Proofs.YtiflfcpoajijaaaDoor.Rq (reqB implRequestOK_any)
open Go.Proofs.YtiflfcpoajijaaaDoor.Ry (anB answerOK_any rokB lokB implReplyOK_any)
open Go.Proofs.YtiflfcpoajijaaaDoor.Rm (inR within_any)
open Go.Proofs.YtiflfcpoajijaaaDoor.Tm (fCode fOut f_cases implFaultsOf_any)
open Go.Proofs.YtiflfcpoajijaaaDoor.Sh (KTab KTab.below)

open Go.Proofs.YtiflfcpoajijaaaDoor.Rr11 (OwnR)
open Go.Proofs.YtiflfcpoajijaaaDoor.Ox (OwnX)
def hdR (n : Int) (c : Cd) (x : Re) : Cd := if asB c x = true then (if 40 ≤ c.re.length then c else if dcB n (addR c x) = true then fin c (ccA n c.id c.st (c.re ++ [x])) else addR c x) else c
def hdC (c : Cd) (x : Re) : Int := if asB c x = true then (if 40 ≤ c.re.length then 7 else 0) else 16
theorem st_wait {c : Cd} {vr va : Value} (h : c.bu = true) : stV c vr va = .iface 70 (clV c vr va) := if_pos h
theorem st_rest {c : Cd} {vr va : Value} (h : c.bu = false) : stV c vr va = .iface 71 (clV c vr va) := if_neg (by rw [h]; decide)
theorem ownR_ne {W : World} {B y : Nat} {v : Value} {xs : List Re} {A : Array Value} {t : TypeId} {fz : Nat × Nat} (h : OwnR W B v xs) (hx : W.heap[y]? = some (.cells A t fz)) (ht : t ≠ 39) : ∀ g, v.ownBlock = some g → g ≠ y := by
  intro g hg e
  subst e
  rcases h.2 with ⟨rfl, _⟩ | ⟨g', cap, cur, rfl, h1, hb, h2⟩
  · simp [Value.ownBlock] at hg
  · simp [Value.ownBlock] at hg
    subst hg
    rw [hx] at hb
    injection hb with hb
    injection hb with _ hb2 _
    exact ht hb2
theorem ownX_ne {W : World} {B y : Nat} {v : Value} {xs : List An} {A : Array Value} {t : TypeId} {fz : Nat × Nat} (h : OwnX W B v xs) (hx : W.heap[y]? = some (.cells A t fz)) (ht : t ≠ 35) : ∀ g, v.ownBlock = some g → g ≠ y := by
  intro g hg e
  subst e
  rcases h.2 with ⟨rfl, _⟩ | ⟨g', cap, cur, rfl, h1, hb, h2⟩
  · simp [Value.ownBlock] at hg
  · simp [Value.ownBlock] at hg
    subst hg
    rw [hx] at hb
    injection hb with hb
    injection hb with _ hb2 _
    exact ht hb2
theorem ret_tup {a b : Value} {k l : Int} (h : a = b) (g : k = l) : Ending.returned (.tuple #[a, .int .i64 k]) = .returned (.tuple #[b, .int .i64 l]) := by rw [h, g]
set_option maxRecDepth 100000 in
set_option maxHeartbeats 1600000 in
theorem waitH_any (n : Int) (c : Cd) (vr va : Value) (x : Re) (B : Nat) (w : World) (h : Mine w B c vr va) (hB : B ≤ w.heap.size) (hz : Tc 1048576 c) (hbu : c.bu = true) (hK : KTab w) (hp : 0 < B) :
    Calls Tryd.prog 68 #[clV c vr va, .int .i64 n, Gy.oneV x] w fun e w' => ∃ vr' va', e = .returned (.tuple #[stV (hdR n c x) vr' va', .int .i64 (hdC c x)]) ∧ Mine w' B (hdR n c x) vr' va' ∧ Below B w w' := by
  obtain ⟨i0, hi0, hz0, hz1, hz2⟩ := info_parts Rr11.infoR
  have HM : Hid (Mine w B c vr va ∧ B ≤ w.heap.size) := ⟨h, hB⟩
  have HBU : Hid (c.bu = true) := hbu
  have HL : Hid (c.ac.length ≤ 1048576 ∧ c.re.length ≤ 1048576) := ⟨hz.2.2.1, hz.2.1⟩
  have GK : Hid (∀ W, Below B w W → KTab W ∧ 0 < W.heap.size) := fun W hW => ⟨hK.below hW hp, Nat.lt_of_lt_of_le (Nat.lt_of_lt_of_le hp hB) hW.size⟩
  obtain ⟨ar, kr, rfl⟩ := h.1.slice
  obtain ⟨aa, ka, rfl⟩ := h.2.slice
  clear h hz hK hp hbu hB
  have HX : Hid (∀ W, Below ((w.alloc (.cells #[.int .i64 c.id, .int .i64 c.st, .bool c.bu, .int .i64 c.rc, .int .i64 c.rs, .int .i64 c.rk, .int .i64 c.rl, .string c.rn, .slice ar c.re.length kr, .slice aa c.ac.length ka] 70)).alloc (.cells #[.int .i64 x.nd, .int .i64 x.cl, .int .i64 x.st, .int .i64 x.kd, .int .i64 x.tk, .int .i64 x.hd, .int .i64 x.ex, .string x.mc] 39)).heap.size ((w.alloc (.cells #[.int .i64 c.id, .int .i64 c.st, .bool c.bu, .int .i64 c.rc, .int .i64 c.rs, .int .i64 c.rk, .int .i64 c.rl, .string c.rn, .slice ar c.re.length kr, .slice aa c.ac.length ka] 70)).alloc (.cells #[.int .i64 x.nd, .int .i64 x.cl, .int .i64 x.st, .int .i64 x.kd, .int .i64 x.tk, .int .i64 x.hd, .int .i64 x.ex, .string x.mc] 39)) W → (W.heap[w.heap.size]? = some (.cells #[.int .i64 c.id, .int .i64 c.st, .bool c.bu, .int .i64 c.rc, .int .i64 c.rs, .int .i64 c.rk, .int .i64 c.rl, .string c.rn, .slice ar c.re.length kr, .slice aa c.ac.length ka] 70) ∧ W.heap[w.heap.size + 1]? = some (.cells #[.int .i64 x.nd, .int .i64 x.cl, .int .i64 x.st, .int .i64 x.kd, .int .i64 x.tk, .int .i64 x.hd, .int .i64 x.ex, .string x.mc] 39)) ∧ Below w.heap.size w W) := fun W hW => by
    obtain ⟨h1, h2, h3⟩ := Gy.two hW
    exact ⟨⟨h1, h2⟩, h3⟩
  have HAS : Hid (∀ W, Below w.heap.size w W → Calls Tryd.prog 71 #[.agg #[.int .i64 c.id, .int .i64 c.st, .bool c.bu, .int .i64 c.rc, .int .i64 c.rs, .int .i64 c.rk, .int .i64 c.rl, .string c.rn, .slice ar c.re.length kr, .slice aa c.ac.length ka], .agg #[.int .i64 x.nd, .int .i64 x.cl, .int .i64 x.st, .int .i64 x.kd, .int .i64 x.tk, .int .i64 x.hd, .int .i64 x.ex, .string x.mc]] W fun e w' => e = .returned (.bool (asB c x)) ∧ Below W.heap.size W w') := fun W hW => asked_any c _ _ x W (HM.out.1.below hW).has
  unfold clV Gy.oneV
  go_enter Tryd.func68, Tryd.ntmps68
  go_upto_region 1 with fail
  generalize ((w.alloc (.cells #[.int .i64 c.id, .int .i64 c.st, .bool c.bu, .int .i64 c.rc, .int .i64 c.rs, .int .i64 c.rk, .int .i64 c.rl, .string c.rn, .slice ar c.re.length kr, .slice aa c.ac.length ka] 70)).alloc (.cells #[.int .i64 x.nd, .int .i64 x.cl, .int .i64 x.st, .int .i64 x.kd, .int .i64 x.tk, .int .i64 x.hd, .int .i64 x.ex, .string x.mc] 39)) = wb at HX ⊢
  have X0 := HX.out wb (Below.refl _ _)
  have c0 := (Rg.blk_cell X0.1.1 0 (x := .int .i64 c.id) rfl).1
  have c1 := (Rg.blk_cell X0.1.1 1 (x := .int .i64 c.st) rfl).1
  have c2 := (Rg.blk_cell X0.1.1 2 (x := .bool c.bu) rfl).1
  have c3 := (Rg.blk_cell X0.1.1 3 (x := .int .i64 c.rc) rfl).1
  have c4 := (Rg.blk_cell X0.1.1 4 (x := .int .i64 c.rs) rfl).1
  have c5 := (Rg.blk_cell X0.1.1 5 (x := .int .i64 c.rk) rfl).1
  have c6 := (Rg.blk_cell X0.1.1 6 (x := .int .i64 c.rl) rfl).1
  have c7 := (Rg.blk_cell X0.1.1 7 (x := .string c.rn) rfl).1
  have c8 := (Rg.blk_cell X0.1.1 8 (x := .slice ar c.re.length kr) rfl).1
  have c9 := (Rg.blk_cell X0.1.1 9 (x := .slice aa c.ac.length ka) rfl).1
  have e0 := (Rg.blk_cell X0.1.2 0 (x := .int .i64 x.nd) rfl).1
  have e1 := (Rg.blk_cell X0.1.2 1 (x := .int .i64 x.cl) rfl).1
  have e2 := (Rg.blk_cell X0.1.2 2 (x := .int .i64 x.st) rfl).1
  have e3 := (Rg.blk_cell X0.1.2 3 (x := .int .i64 x.kd) rfl).1
  have e4 := (Rg.blk_cell X0.1.2 4 (x := .int .i64 x.tk) rfl).1
  have e5 := (Rg.blk_cell X0.1.2 5 (x := .int .i64 x.hd) rfl).1
  have e6 := (Rg.blk_cell X0.1.2 6 (x := .int .i64 x.ex) rfl).1
  have e7 := (Rg.blk_cell X0.1.2 7 (x := .string x.mc) rfl).1
  have HK := HAS.out wb X0.2
  clear X0
  go_wp2_with fail
  refine HK.mono ?_
  rintro e w2 ⟨rfl, b2⟩
  have X2 : Hid ((w2.heap[w.heap.size]? = some (.cells #[.int .i64 c.id, .int .i64 c.st, .bool c.bu, .int .i64 c.rc, .int .i64 c.rs, .int .i64 c.rk, .int .i64 c.rl, .string c.rn, .slice ar c.re.length kr, .slice aa c.ac.length ka] 70) ∧ w2.heap[w.heap.size + 1]? = some (.cells #[.int .i64 x.nd, .int .i64 x.cl, .int .i64 x.st, .int .i64 x.kd, .int .i64 x.tk, .int .i64 x.hd, .int .i64 x.ex, .string x.mc] 39)) ∧ Below w.heap.size w w2) := HX.out w2 b2
  clear b2 HK HX c0 c1 c2 c3 c4 c5 c6 c7 c8 c9 e0 e1 e2 e3 e4 e5 e6 e7
  have c0 := (Rg.blk_cell X2.out.1.1 0 (x := .int .i64 c.id) rfl).1
  have c1 := (Rg.blk_cell X2.out.1.1 1 (x := .int .i64 c.st) rfl).1
  have c2 := (Rg.blk_cell X2.out.1.1 2 (x := .bool c.bu) rfl).1
  have c3 := (Rg.blk_cell X2.out.1.1 3 (x := .int .i64 c.rc) rfl).1
  have c4 := (Rg.blk_cell X2.out.1.1 4 (x := .int .i64 c.rs) rfl).1
  have c5 := (Rg.blk_cell X2.out.1.1 5 (x := .int .i64 c.rk) rfl).1
  have c6 := (Rg.blk_cell X2.out.1.1 6 (x := .int .i64 c.rl) rfl).1
  have c7 := (Rg.blk_cell X2.out.1.1 7 (x := .string c.rn) rfl).1
  have c8 := (Rg.blk_cell X2.out.1.1 8 (x := .slice ar c.re.length kr) rfl).1
  have c9 := (Rg.blk_cell X2.out.1.1 9 (x := .slice aa c.ac.length ka) rfl).1
  have e0 := (Rg.blk_cell X2.out.1.2 0 (x := .int .i64 x.nd) rfl).1
  have e1 := (Rg.blk_cell X2.out.1.2 1 (x := .int .i64 x.cl) rfl).1
  have e2 := (Rg.blk_cell X2.out.1.2 2 (x := .int .i64 x.st) rfl).1
  have e3 := (Rg.blk_cell X2.out.1.2 3 (x := .int .i64 x.kd) rfl).1
  have e4 := (Rg.blk_cell X2.out.1.2 4 (x := .int .i64 x.tk) rfl).1
  have e5 := (Rg.blk_cell X2.out.1.2 5 (x := .int .i64 x.hd) rfl).1
  have e6 := (Rg.blk_cell X2.out.1.2 6 (x := .int .i64 x.ex) rfl).1
  have e7 := (Rg.blk_cell X2.out.1.2 7 (x := .string x.mc) rfl).1
  cases hg : asB c x with
  | false =>
    have HV : Hid (hdR n c x = c ∧ hdC c x = 16) := by
      unfold hdR hdC
      rw [hg]
      exact ⟨rfl, rfl⟩
    clear hg
    go_wp2_with fail
    exact bodyPost_ret (v := .tuple #[.iface 70 (.agg #[.int .i64 c.id, .int .i64 c.st, .bool c.bu, .int .i64 c.rc, .int .i64 c.rs, .int .i64 c.rk, .int .i64 c.rl, .string c.rn, .slice ar c.re.length kr, .slice aa c.ac.length ka]), .int .i64 16]) (by simp [results, Tryd.results68, go_sem]) rfl ⟨_, _, ret_tup (by rw [HV.out.1, st_wait HBU.out]; rfl) HV.out.2.symm, by rw [HV.out.1]; exact HM.out.1.below X2.out.2, X2.out.2.mono HM.out.2⟩
  | true =>
  have HG : Hid (asB c x = true) := hg
  clear hg
  by_cases h40 : 40 ≤ c.re.length
  · have HV : Hid (hdR n c x = c ∧ hdC c x = 7) := by
      unfold hdR hdC
      rw [HG.out]
      exact ⟨by rw [if_pos rfl, if_pos h40], by rw [if_pos rfl, if_pos h40]⟩
    have h41 : (40 : Int) ≤ (c.re.length : Int) := by omega
    clear h40
    go_wp2_with fail
    exact bodyPost_ret (v := .tuple #[.iface 70 (.agg #[.int .i64 c.id, .int .i64 c.st, .bool c.bu, .int .i64 c.rc, .int .i64 c.rs, .int .i64 c.rk, .int .i64 c.rl, .string c.rn, .slice ar c.re.length kr, .slice aa c.ac.length ka]), .int .i64 7]) (by simp [results, Tryd.results68, go_sem]) rfl ⟨_, _, ret_tup (by rw [HV.out.1, st_wait HBU.out]; rfl) HV.out.2.symm, by rw [HV.out.1]; exact HM.out.1.below X2.out.2, X2.out.2.mono HM.out.2⟩
  have HV : Hid (hdR n c x = (if dcB n (addR c x) = true then fin c (ccA n c.id c.st (c.re ++ [x])) else addR c x) ∧ hdC c x = 0) := by
    unfold hdR hdC
    rw [HG.out]
    exact ⟨by rw [if_pos rfl, if_neg h40], by rw [if_pos rfl, if_neg h40]⟩
  have h41 : ¬ (40 : Int) ≤ (c.re.length : Int) := by omega
  have hl4 : c.re.length ≤ 39 := by omega
  clear h40
  have HO : Hid (OwnR (w2.alloc (.cells #[.int .i64 x.nd, .int .i64 x.cl, .int .i64 x.st, .int .i64 x.kd, .int .i64 x.tk, .int .i64 x.hd, .int .i64 x.ex, .string x.mc] 39)) B (.slice ar c.re.length kr) c.re ∧ B ≤ (w2.alloc (.cells #[.int .i64 x.nd, .int .i64 x.cl, .int .i64 x.st, .int .i64 x.kd, .int .i64 x.tk, .int .i64 x.hd, .int .i64 x.ex, .string x.mc] 39)).heap.size) := ⟨(HM.out.1.1.below X2.out.2).alloc _, Nat.le_trans HM.out.2 (Nat.le_trans X2.out.2.size (by simp))⟩
  have HNE : Hid (w.heap.size < w2.heap.size ∧ (Value.slice ar c.re.length kr).ownBlock ≠ some w.heap.size) := ⟨(Array.getElem?_eq_some_iff.1 X2.out.1.1).1, fun e => by have := (HM.out.1.1.lt _ e).2; omega⟩
  go_upto_region 6 with (at_builtin; go_must (refine Rr11.list_app (by rfl) _ _ 25 (by rfl) i0 Tryd.underlying25 hi0 hz0 hz1 hz2 B _ _ _ c.re [x] (by rfl) (by rfl) HO.out.1 (rowOneR _ x) HO.out.2 (by simp; omega) ?_; intro v1 w3 o3 f3 b3; obtain ⟨a1, k1, rfl⟩ := o3.slice; have q3 : w3.heap[w.heap.size]? = some (.cells #[.int .i64 c.id, .int .i64 c.st, .bool c.bu, .int .i64 c.rc, .int .i64 c.rs, .int .i64 c.rk, .int .i64 c.rl, .string c.rn, .slice ar c.re.length kr, .slice aa c.ac.length ka] 70) := (f3 w.heap.size (by have := HNE.out.1; simp; omega) HNE.out.2).trans ((Below.heap_alloc _ _ _ HNE.out.1).trans X2.out.1.1); obtain ⟨m8, n8⟩ := Rg.blk_cell q3 8 (x := .slice ar c.re.length kr) rfl; generalize HNN : (c.re ++ [x]).length = N at *))
  have HNH : Hid ((c.re ++ [x]).length = N) := HNN
  clear HNN
  have OX3 : OwnX w3 B (.slice aa c.ac.length ka) c.ac := ((HM.out.1.2.below X2.out.2).alloc (.cells #[.int .i64 x.nd, .int .i64 x.cl, .int .i64 x.st, .int .i64 x.kd, .int .i64 x.tk, .int .i64 x.hd, .int .i64 x.ex, .string x.mc] 39)).kept fun g hg => f3 g (((HM.out.1.2.below X2.out.2).alloc (.cells #[.int .i64 x.nd, .int .i64 x.cl, .int .i64 x.st, .int .i64 x.kd, .int .i64 x.tk, .int .i64 x.hd, .int .i64 x.ex, .string x.mc] 39)).lt g hg).2 (kinds HO.out.1 ((HM.out.1.2.below X2.out.2).alloc (.cells #[.int .i64 x.nd, .int .i64 x.cl, .int .i64 x.st, .int .i64 x.kd, .int .i64 x.tk, .int .i64 x.hd, .int .i64 x.ex, .string x.mc] 39)) g hg)
  have Y1 : Hid ((w3.setCell ⟨w.heap.size, 8, none⟩ (.slice a1 N k1)).heap[w.heap.size]? = some (.cells #[.int .i64 c.id, .int .i64 c.st, .bool c.bu, .int .i64 c.rc, .int .i64 c.rs, .int .i64 c.rk, .int .i64 c.rl, .string c.rn, .slice a1 N k1, .slice aa c.ac.length ka] 70) ∧ Mine (w3.setCell ⟨w.heap.size, 8, none⟩ (.slice a1 N k1)) B (addR c x) (.slice a1 N k1) (.slice aa c.ac.length ka) ∧ Below B w (w3.setCell ⟨w.heap.size, 8, none⟩ (.slice a1 N k1))) := by
    refine ⟨?_, ⟨o3.kept fun g hg => Rg.blk_far (ownR_ne o3 q3 (by decide) g hg) _ _, OX3.kept fun g hg => Rg.blk_far (ownX_ne OX3 q3 (by decide) g hg) _ _⟩, ?_⟩
    · have := Rg.blk_set q3 8 (.slice a1 N k1)
      simpa only [List.setIfInBounds_toArray, List.set_cons_zero, List.set_cons_succ] using this
    · exact Below.setCell ((((X2.out.2.alloc X2.out.2.size (.cells #[.int .i64 x.nd, .int .i64 x.cl, .int .i64 x.st, .int .i64 x.kd, .int .i64 x.tk, .int .i64 x.hd, .int .i64 x.ex, .string x.mc] 39)).mono HM.out.2)).trans b3) (p := ⟨w.heap.size, 8, none⟩) HM.out.2 _
  clear q3 m8 n8 o3 f3 b3 OX3 HO HNE c0 c1 c2 c3 c4 c5 c6 c7 c8 c9 e0 e1 e2 e3 e4 e5 e6 e7 HAS
  generalize (w3.setCell ⟨w.heap.size, 8, none⟩ (.slice a1 N k1)) = u1 at Y1 ⊢
  have HDE : Hid (∀ W, Mine W B (addR c x) (.slice a1 N k1) (.slice aa c.ac.length ka) → KTab W → 0 < W.heap.size → Calls Tryd.prog 72 #[.agg #[.int .i64 c.id, .int .i64 c.st, .bool c.bu, .int .i64 c.rc, .int .i64 c.rs, .int .i64 c.rk, .int .i64 c.rl, .string c.rn, .slice a1 N k1, .slice aa c.ac.length ka], .int .i64 n] W fun e w' => e = .returned (.tuple #[anV (ccA n c.id c.st (c.re ++ [x])), .bool (dcB n (addR c x))]) ∧ Below W.heap.size W w') := fun W hM h1 h2 => decision_any n (addR c x) _ _ W hM.has (by show (c.re ++ [x]).length ≤ _; rw [List.length_append]; simp; omega) h1 h2
  have HAN : Hid (∀ W A, Mine W B (addR c x) (.slice a1 N k1) (.slice aa c.ac.length ka) → B ≤ W.heap.size → Calls Tryd.prog 73 #[.agg #[.int .i64 c.id, .int .i64 c.st, .bool c.bu, .int .i64 c.rc, .int .i64 c.rs, .int .i64 c.rk, .int .i64 c.rl, .string c.rn, .slice a1 N k1, .slice aa c.ac.length ka], anV A] W fun e w' => ∃ va', e = .returned (.iface 71 (clV (fin c A) (.slice none 0 0) va')) ∧ Hid (Mine w' B (fin c A) (.slice none 0 0) va') ∧ Below B W w') := fun W A hM h1 => answered_any (addR c x) A _ _ B W hM h1 HL.out.1
  have c0 := (Rg.blk_cell Y1.out.1 0 (x := .int .i64 c.id) rfl).1
  have c1 := (Rg.blk_cell Y1.out.1 1 (x := .int .i64 c.st) rfl).1
  have c2 := (Rg.blk_cell Y1.out.1 2 (x := .bool c.bu) rfl).1
  have c3 := (Rg.blk_cell Y1.out.1 3 (x := .int .i64 c.rc) rfl).1
  have c4 := (Rg.blk_cell Y1.out.1 4 (x := .int .i64 c.rs) rfl).1
  have c5 := (Rg.blk_cell Y1.out.1 5 (x := .int .i64 c.rk) rfl).1
  have c6 := (Rg.blk_cell Y1.out.1 6 (x := .int .i64 c.rl) rfl).1
  have c7 := (Rg.blk_cell Y1.out.1 7 (x := .string c.rn) rfl).1
  have c8 := (Rg.blk_cell Y1.out.1 8 (x := .slice a1 N k1) rfl).1
  have c9 := (Rg.blk_cell Y1.out.1 9 (x := .slice aa c.ac.length ka) rfl).1
  have HK := HDE.out u1 Y1.out.2.1 (GK.out _ Y1.out.2.2).1 (GK.out _ Y1.out.2.2).2
  clear HDE
  generalize ccA n c.id c.st (c.re ++ [x]) = A at HK HV
  generalize dcB n (addR c x) = dd at HK HV
  unfold anV at HK HAN
  go_wp2_with fail
  refine HK.mono ?_
  rintro e w4 ⟨rfl, b4⟩
  have Y2 : Hid ((w4.alloc (.cells #[.int .i64 A.1, .int .i64 A.2.1, .int .i64 A.2.2.1, .int .i64 A.2.2.2] 35)).heap[w.heap.size]? = some (.cells #[.int .i64 c.id, .int .i64 c.st, .bool c.bu, .int .i64 c.rc, .int .i64 c.rs, .int .i64 c.rk, .int .i64 c.rl, .string c.rn, .slice a1 N k1, .slice aa c.ac.length ka] 70) ∧ Mine (w4.alloc (.cells #[.int .i64 A.1, .int .i64 A.2.1, .int .i64 A.2.2.1, .int .i64 A.2.2.2] 35)) B (addR c x) (.slice a1 N k1) (.slice aa c.ac.length ka) ∧ Below B w (w4.alloc (.cells #[.int .i64 A.1, .int .i64 A.2.1, .int .i64 A.2.2.1, .int .i64 A.2.2.2] 35)) ∧ (w4.alloc (.cells #[.int .i64 A.1, .int .i64 A.2.1, .int .i64 A.2.2.1, .int .i64 A.2.2.2] 35)).heap[w4.heap.size]? = some (.cells #[.int .i64 A.1, .int .i64 A.2.1, .int .i64 A.2.2.1, .int .i64 A.2.2.2] 35) ∧ B ≤ (w4.alloc (.cells #[.int .i64 A.1, .int .i64 A.2.1, .int .i64 A.2.2.1, .int .i64 A.2.2.2] 35)).heap.size) := by
    have b5 := b4.alloc b4.size (.cells #[.int .i64 A.1, .int .i64 A.2.1, .int .i64 A.2.2.1, .int .i64 A.2.2.2] 35)
    have g5 := Y1.out.2.2.trans (b5.mono (Nat.le_trans HM.out.2 Y1.out.2.2.size))
    exact ⟨(b5.block _ (Array.getElem?_eq_some_iff.1 Y1.out.1).1).trans Y1.out.1, Y1.out.2.1.below b5, g5, heap_alloc_new _ _, Nat.le_trans HM.out.2 g5.size⟩
  clear b4 HK c0 c1 c2 c3 c4 c5 c6 c7 c8 c9 Y1
  go_upto_region 7 with fail
  generalize w4.alloc (.cells #[.int .i64 A.1, .int .i64 A.2.1, .int .i64 A.2.2.1, .int .i64 A.2.2.2] 35) = u2 at Y2 ⊢
  generalize w4.heap.size = b4 at Y2 ⊢
  have c0 := (Rg.blk_cell Y2.out.1 0 (x := .int .i64 c.id) rfl).1
  have c1 := (Rg.blk_cell Y2.out.1 1 (x := .int .i64 c.st) rfl).1
  have c2 := (Rg.blk_cell Y2.out.1 2 (x := .bool c.bu) rfl).1
  have c3 := (Rg.blk_cell Y2.out.1 3 (x := .int .i64 c.rc) rfl).1
  have c4 := (Rg.blk_cell Y2.out.1 4 (x := .int .i64 c.rs) rfl).1
  have c5 := (Rg.blk_cell Y2.out.1 5 (x := .int .i64 c.rk) rfl).1
  have c6 := (Rg.blk_cell Y2.out.1 6 (x := .int .i64 c.rl) rfl).1
  have c7 := (Rg.blk_cell Y2.out.1 7 (x := .string c.rn) rfl).1
  have c8 := (Rg.blk_cell Y2.out.1 8 (x := .slice a1 N k1) rfl).1
  have c9 := (Rg.blk_cell Y2.out.1 9 (x := .slice aa c.ac.length ka) rfl).1
  have e0 := (Rg.blk_cell Y2.out.2.2.2.1 0 (x := .int .i64 A.1) rfl).1
  have e1 := (Rg.blk_cell Y2.out.2.2.2.1 1 (x := .int .i64 A.2.1) rfl).1
  have e2 := (Rg.blk_cell Y2.out.2.2.2.1 2 (x := .int .i64 A.2.2.1) rfl).1
  have e3 := (Rg.blk_cell Y2.out.2.2.2.1 3 (x := .int .i64 A.2.2.2) rfl).1
  cases dd with
  | true =>
    have HV2 : Hid (hdR n c x = fin c A) := by show _ = _; rw [HV.out.1]; rfl
    have HK := HAN.out u2 A Y2.out.2.1 Y2.out.2.2.2.2
    clear HAN
    go_wp2_with fail
    refine HK.mono ?_
    rintro e w5 ⟨va', rfl, hm5, b5⟩
    have G5 : Hid (Below B w w5) := Y2.out.2.2.1.trans b5
    clear HK b5 Y2
    go_wp2_with fail
    exact bodyPost_ret (v := .tuple #[.iface 71 (clV (fin c A) (.slice none 0 0) va'), .int .i64 0]) (by simp [results, Tryd.results68, go_sem]) rfl ⟨_, _, ret_tup (by rw [HV2.out, st_rest rfl]) HV.out.2.symm, by rw [HV2.out]; exact hm5.out, G5.out⟩
  | false =>
    have HV2 : Hid (hdR n c x = addR c x) := by show _ = _; rw [HV.out.1]; rfl
    clear HAN
    go_wp2_with fail
    exact bodyPost_ret (v := .tuple #[.iface 70 (.agg #[.int .i64 c.id, .int .i64 c.st, .bool c.bu, .int .i64 c.rc, .int .i64 c.rs, .int .i64 c.rk, .int .i64 c.rl, .string c.rn, .slice a1 N k1, .slice aa c.ac.length ka]), .int .i64 0]) (by simp [results, Tryd.results68, go_sem]) rfl ⟨_, _, ret_tup (by rw [HV2.out, st_wait (c := addR c x) HBU.out]; rfl) HV.out.2.symm, by rw [HV2.out]; exact Y2.out.2.1, Y2.out.2.2.1⟩
end Go.Proofs.YtiflfcpoajijaaaDoor.Cl

/- ClientTake of the program. -/
namespace Go.Proofs.YtiflfcpoajijaaaDoor.Cl
open Go.RowKit Go.Proofs.YtiflfcpoajijaaaDoor.Sl Go.Proofs.YtiflfcpoajijaaaDoor.Rg
open Go.Proofs.YtiflfcpoajijaaaDoor.Gy (Re)
open Go.Proofs.YtiflfcpoajijaaaDoor.Rk (An anV ccR ccA ccC cc_cases implCountReplies_any)
open Go.Proofs.YtiflfcpoajijaaaDoor.Rq (reqB implRequestOK_any)
open Go.Proofs.YtiflfcpoajijaaaDoor.Ry (anB answerOK_any rokB lokB implReplyOK_any)
open Go.Proofs.YtiflfcpoajijaaaDoor.Rm (inR within_any)
open Go.Proofs.YtiflfcpoajijaaaDoor.Tm (fCode fOut f_cases implFaultsOf_any)
open Go.Proofs.YtiflfcpoajijaaaDoor.Sh (KTab KTab.below)

open Go.Proofs.YtiflfcpoajijaaaDoor.Rr11 (OwnR)
open Go.Proofs.YtiflfcpoajijaaaDoor.Ox (OwnX)
def zC : Cd := ⟨0, 0, false, 0, 0, 0, 0, ⟨#[]⟩, [], []⟩
def tkR (n : Int) (c : Cd) (x : Re) : Cd := if okB n c = true then (if rokB n x = true then (if c.bu = true then hdR n c x else c) else c) else zC
def tkC (n : Int) (c : Cd) (x : Re) : Int := if okB n c = true then (if rokB n x = true then (if c.bu = true then hdC c x else 16) else 12) else 1
theorem tk_bad {n : Int} {c : Cd} {x : Re} (h : okB n c = false) : tkR n c x = zC ∧ tkC n c x = 1 := by unfold tkR tkC; rw [h]; exact ⟨rfl, rfl⟩
theorem tk_sig {n : Int} {c : Cd} {x : Re} (h : okB n c = true) (h2 : rokB n x = false) : tkR n c x = c ∧ tkC n c x = 12 := by unfold tkR tkC; rw [h, h2]; exact ⟨rfl, rfl⟩
theorem tk_rest {n : Int} {c : Cd} {x : Re} (h : okB n c = true) (h2 : rokB n x = true) (h3 : c.bu = false) : tkR n c x = c ∧ tkC n c x = 16 := by unfold tkR tkC; rw [h, h2, h3]; exact ⟨rfl, rfl⟩
theorem tk_wait {n : Int} {c : Cd} {x : Re} (h : okB n c = true) (h2 : rokB n x = true) (h3 : c.bu = true) : tkR n c x = hdR n c x ∧ tkC n c x = hdC c x := by unfold tkR tkC; rw [h, h2, h3]; exact ⟨rfl, rfl⟩
theorem mClientW (v : Value) (w : World) : (Go.method 239 70 v "loop.example/g00292/impl.client").run Tryd.prog w = .ok (67, v) w := by kernel_rfl
theorem mClientR (v : Value) (w : World) : (Go.method 239 71 v "loop.example/g00292/impl.client").run Tryd.prog w = .ok (89, v) w := by kernel_rfl
theorem mHeardW (v : Value) (w : World) : (Go.method 239 70 v "loop.example/g00292/impl.heard").run Tryd.prog w = .ok (68, v) w := by kernel_rfl
theorem mHeardR (v : Value) (w : World) : (Go.method 239 71 v "loop.example/g00292/impl.heard").run Tryd.prog w = .ok (90, v) w := by kernel_rfl
theorem three {w w1 : World} {o0 o1 o2 : Obj} (b : Below (((w.alloc o0).alloc o1).alloc o2).heap.size (((w.alloc o0).alloc o1).alloc o2) w1) :
    (w1.heap[w.heap.size]? = some o0 ∧ w1.heap[w.heap.size + 1]? = some o1 ∧ w1.heap[w.heap.size + 1 + 1]? = some o2) ∧ Below w.heap.size w w1 ∧ w.heap.size + 1 + 1 + 1 ≤ w1.heap.size := by
  have e2 : ((w.alloc o0).alloc o1).heap.size = w.heap.size + 1 + 1 := by rw [Rg.size_new, Rg.size_new]
  have e3 : (((w.alloc o0).alloc o1).alloc o2).heap.size = w.heap.size + 1 + 1 + 1 := by rw [Rg.size_new, e2]
  obtain ⟨h1, h2, h3⟩ := Gy.two (w := w) (o0 := o0) (o1 := o1) (w1 := ((w.alloc o0).alloc o1).alloc o2) (bel_new _ _)
  refine ⟨⟨(b.block _ (by omega)).trans h1, (b.block _ (by omega)).trans h2, ?_⟩, h3.trans (b.mono (by omega)), by rw [← e3]; exact b.size⟩
  rw [b.block _ (by omega), ← e2]
  exact heap_alloc_new _ _
set_option maxRecDepth 100000 in
set_option maxHeartbeats 1600000 in
theorem implClientTake_any (n : Int) (c : Cd) (vr va : Value) (x : Re) (w : World) (h : Has w c vr va) (hz : Tc 1048576 c) (hK : KTab w) (hp : 0 < w.heap.size) :
    Calls Tryd.prog 10 #[.int .i64 n, clV c vr va, Gy.oneV x] w fun e w' => ∃ vr' va', e = .returned (.tuple #[clV (tkR n c x) vr' va', .int .i64 (tkC n c x)]) ∧ Hid (Mine w' w.heap.size (tkR n c x) vr' va') ∧ Below w.heap.size w w' := by
  have HR : Hid (∀ W, Below w.heap.size w W → Has W c vr va ∧ KTab W ∧ 0 < W.heap.size) := fun W hW => ⟨h.below hW, hK.below hW hp, Nat.lt_of_lt_of_le hp hW.size⟩
  have HZ : Hid (Tc 1048576 c ∧ 0 < w.heap.size) := ⟨hz, hp⟩
  obtain ⟨ar, kr, rfl⟩ := RowG.slice h.1
  obtain ⟨aa, ka, rfl⟩ := RowG.slice h.2
  clear h hz hK hp
  have HX : Hid (∀ W, Below (((w.alloc (.cells #[.int .i64 c.id, .int .i64 c.st, .bool c.bu, .int .i64 c.rc, .int .i64 c.rs, .int .i64 c.rk, .int .i64 c.rl, .string c.rn, .slice ar c.re.length kr, .slice aa c.ac.length ka] 28)).alloc (.cells #[.int .i64 x.nd, .int .i64 x.cl, .int .i64 x.st, .int .i64 x.kd, .int .i64 x.tk, .int .i64 x.hd, .int .i64 x.ex, .string x.mc] 39)).alloc (.cells #[.int .i64 0, .int .i64 0, .bool false, .int .i64 0, .int .i64 0, .int .i64 0, .int .i64 0, .string ⟨#[]⟩, .slice none 0 0, .slice none 0 0] 28)).heap.size (((w.alloc (.cells #[.int .i64 c.id, .int .i64 c.st, .bool c.bu, .int .i64 c.rc, .int .i64 c.rs, .int .i64 c.rk, .int .i64 c.rl, .string c.rn, .slice ar c.re.length kr, .slice aa c.ac.length ka] 28)).alloc (.cells #[.int .i64 x.nd, .int .i64 x.cl, .int .i64 x.st, .int .i64 x.kd, .int .i64 x.tk, .int .i64 x.hd, .int .i64 x.ex, .string x.mc] 39)).alloc (.cells #[.int .i64 0, .int .i64 0, .bool false, .int .i64 0, .int .i64 0, .int .i64 0, .int .i64 0, .string ⟨#[]⟩, .slice none 0 0, .slice none 0 0] 28)) W → (W.heap[w.heap.size]? = some (.cells #[.int .i64 c.id, .int .i64 c.st, .bool c.bu, .int .i64 c.rc, .int .i64 c.rs, .int .i64 c.rk, .int .i64 c.rl, .string c.rn, .slice ar c.re.length kr, .slice aa c.ac.length ka] 28) ∧ W.heap[w.heap.size + 1]? = some (.cells #[.int .i64 x.nd, .int .i64 x.cl, .int .i64 x.st, .int .i64 x.kd, .int .i64 x.tk, .int .i64 x.hd, .int .i64 x.ex, .string x.mc] 39) ∧ W.heap[w.heap.size + 1 + 1]? = some (.cells #[.int .i64 0, .int .i64 0, .bool false, .int .i64 0, .int .i64 0, .int .i64 0, .int .i64 0, .string ⟨#[]⟩, .slice none 0 0, .slice none 0 0] 28)) ∧ Below w.heap.size w W ∧ w.heap.size + 1 + 1 + 1 ≤ W.heap.size) := fun W hW => three hW
  have HOK : Hid (∀ W, Below w.heap.size w W → Calls Tryd.prog 11 #[.int .i64 n, .agg #[.int .i64 c.id, .int .i64 c.st, .bool c.bu, .int .i64 c.rc, .int .i64 c.rs, .int .i64 c.rk, .int .i64 c.rl, .string c.rn, .slice ar c.re.length kr, .slice aa c.ac.length ka]] W fun e w' => e = .returned (.bool (okB n c)) ∧ Below W.heap.size W w') := fun W hW => implClientOK_any n c _ _ W (HR.out W hW).1 HZ.out.1 (HR.out W hW).2.1 (HR.out W hW).2.2
  have HCO : Hid (∀ W, Below w.heap.size w W → Calls Tryd.prog 16 #[.agg #[.int .i64 c.id, .int .i64 c.st, .bool c.bu, .int .i64 c.rc, .int .i64 c.rs, .int .i64 c.rk, .int .i64 c.rl, .string c.rn, .slice ar c.re.length kr, .slice aa c.ac.length ka]] W fun e w' => ∃ vr' va', e = .returned (clV c vr' va') ∧ Hid (Mine w' W.heap.size c vr' va') ∧ Below W.heap.size W w') := fun W hW => copyClient_any c _ _ W (HR.out W hW).1 HZ.out.1.2.1 HZ.out.1.2.2.1
  have HRO : Hid (∀ W, Below w.heap.size w W → Calls Tryd.prog 20 #[.int .i64 n, .agg #[.int .i64 x.nd, .int .i64 x.cl, .int .i64 x.st, .int .i64 x.kd, .int .i64 x.tk, .int .i64 x.hd, .int .i64 x.ex, .string x.mc]] W fun e w' => e = .returned (.bool (rokB n x)) ∧ Below W.heap.size W w') := fun W hW => implReplyOK_any n x W (HR.out W hW).2.1 (HR.out W hW).2.2
  have m1 := mClientW
  have m2 := mClientR
  have m3 := mHeardW
  have m4 := mHeardR
  unfold clV Gy.oneV
  go_enter Tryd.func10, Tryd.ntmps10
  go_upto_region 1 with fail
  generalize (((w.alloc (.cells #[.int .i64 c.id, .int .i64 c.st, .bool c.bu, .int .i64 c.rc, .int .i64 c.rs, .int .i64 c.rk, .int .i64 c.rl, .string c.rn, .slice ar c.re.length kr, .slice aa c.ac.length ka] 28)).alloc (.cells #[.int .i64 x.nd, .int .i64 x.cl, .int .i64 x.st, .int .i64 x.kd, .int .i64 x.tk, .int .i64 x.hd, .int .i64 x.ex, .string x.mc] 39)).alloc (.cells #[.int .i64 0, .int .i64 0, .bool false, .int .i64 0, .int .i64 0, .int .i64 0, .int .i64 0, .string ⟨#[]⟩, .slice none 0 0, .slice none 0 0] 28)) = wb at HX ⊢
  have X0 := HX.out wb (Below.refl _ _)
  have c0 := (Rg.blk_cell X0.1.1 0 (x := .int .i64 c.id) rfl).1
  have c1 := (Rg.blk_cell X0.1.1 1 (x := .int .i64 c.st) rfl).1
  have c2 := (Rg.blk_cell X0.1.1 2 (x := .bool c.bu) rfl).1
  have c3 := (Rg.blk_cell X0.1.1 3 (x := .int .i64 c.rc) rfl).1
  have c4 := (Rg.blk_cell X0.1.1 4 (x := .int .i64 c.rs) rfl).1
  have c5 := (Rg.blk_cell X0.1.1 5 (x := .int .i64 c.rk) rfl).1
  have c6 := (Rg.blk_cell X0.1.1 6 (x := .int .i64 c.rl) rfl).1
  have c7 := (Rg.blk_cell X0.1.1 7 (x := .string c.rn) rfl).1
  have c8 := (Rg.blk_cell X0.1.1 8 (x := .slice ar c.re.length kr) rfl).1
  have c9 := (Rg.blk_cell X0.1.1 9 (x := .slice aa c.ac.length ka) rfl).1
  have HK := HOK.out wb X0.2.1
  clear X0 HOK
  go_wp2_with fail
  refine HK.mono ?_
  rintro e w2 ⟨rfl, b2⟩
  have B2 : Hid (Below wb.heap.size wb w2) := b2
  clear b2 HK c0 c1 c2 c3 c4 c5 c6 c7 c8 c9
  cases hok : okB n c with
  | false =>
    have HV : Hid (tkR n c x = zC ∧ tkC n c x = 1) := tk_bad hok
    clear hok HCO HRO
    have Z9 := HX.out w2 (B2.out)
    obtain ⟨z0, fz0⟩ := Rg.blk_cell Z9.1.2.2 0 (x := .int .i64 0) rfl
    obtain ⟨z1, fz1⟩ := Rg.blk_cell Z9.1.2.2 1 (x := .int .i64 0) rfl
    obtain ⟨z2, fz2⟩ := Rg.blk_cell Z9.1.2.2 2 (x := .bool false) rfl
    obtain ⟨z3, fz3⟩ := Rg.blk_cell Z9.1.2.2 3 (x := .int .i64 0) rfl
    obtain ⟨z4, fz4⟩ := Rg.blk_cell Z9.1.2.2 4 (x := .int .i64 0) rfl
    obtain ⟨z5, fz5⟩ := Rg.blk_cell Z9.1.2.2 5 (x := .int .i64 0) rfl
    obtain ⟨z6, fz6⟩ := Rg.blk_cell Z9.1.2.2 6 (x := .int .i64 0) rfl
    obtain ⟨z7, fz7⟩ := Rg.blk_cell Z9.1.2.2 7 (x := .string ⟨#[]⟩) rfl
    obtain ⟨z8, fz8⟩ := Rg.blk_cell Z9.1.2.2 8 (x := .slice none 0 0) rfl
    obtain ⟨z9, fz9⟩ := Rg.blk_cell Z9.1.2.2 9 (x := .slice none 0 0) rfl
    obtain ⟨AF, HFB, GF0⟩ := set10 (.int .i64 0) (.int .i64 0) (.bool false) (.int .i64 0) (.int .i64 0) (.int .i64 0) (.int .i64 0) (.string ⟨#[]⟩) (.slice none 0 0) (.slice none 0 0) (.int .i64 0) (.int .i64 0) (.bool false) (.int .i64 0) (.int .i64 0) (.int .i64 0) (.int .i64 0) (.string ⟨#[]⟩) (.slice none 0 0) (.slice none 0 0) Z9.1.2.2
    have GF := GF0 (Z9.2.1) (Nat.le_trans (Nat.le_succ _) (Nat.le_succ _))
    have KF : Hid (Mine ((((((((((w2.setCell ⟨w.heap.size + 1 + 1, 0, none⟩ (.int .i64 0)).setCell ⟨w.heap.size + 1 + 1, 1, none⟩ (.int .i64 0)).setCell ⟨w.heap.size + 1 + 1, 2, none⟩ (.bool false)).setCell ⟨w.heap.size + 1 + 1, 3, none⟩ (.int .i64 0)).setCell ⟨w.heap.size + 1 + 1, 4, none⟩ (.int .i64 0)).setCell ⟨w.heap.size + 1 + 1, 5, none⟩ (.int .i64 0)).setCell ⟨w.heap.size + 1 + 1, 6, none⟩ (.int .i64 0)).setCell ⟨w.heap.size + 1 + 1, 7, none⟩ (.string ⟨#[]⟩)).setCell ⟨w.heap.size + 1 + 1, 8, none⟩ (.slice none 0 0)).setCell ⟨w.heap.size + 1 + 1, 9, none⟩ (.slice none 0 0)) w.heap.size zC (.slice none 0 0) (.slice none 0 0)) := ⟨Rr11.OwnR.nil _ _, Ox.OwnX.nil _ _⟩
    clear GF0 HFB Z9 
    go_wp2_with fail
    generalize ((((((((((w2.setCell ⟨w.heap.size + 1 + 1, 0, none⟩ (.int .i64 0)).setCell ⟨w.heap.size + 1 + 1, 1, none⟩ (.int .i64 0)).setCell ⟨w.heap.size + 1 + 1, 2, none⟩ (.bool false)).setCell ⟨w.heap.size + 1 + 1, 3, none⟩ (.int .i64 0)).setCell ⟨w.heap.size + 1 + 1, 4, none⟩ (.int .i64 0)).setCell ⟨w.heap.size + 1 + 1, 5, none⟩ (.int .i64 0)).setCell ⟨w.heap.size + 1 + 1, 6, none⟩ (.int .i64 0)).setCell ⟨w.heap.size + 1 + 1, 7, none⟩ (.string ⟨#[]⟩)).setCell ⟨w.heap.size + 1 + 1, 8, none⟩ (.slice none 0 0)).setCell ⟨w.heap.size + 1 + 1, 9, none⟩ (.slice none 0 0)) = wf at AF GF KF ⊢
    have d0 := (Rg.blk_cell AF 0 (x := .int .i64 0) rfl).1
    have d1 := (Rg.blk_cell AF 1 (x := .int .i64 0) rfl).1
    have d2 := (Rg.blk_cell AF 2 (x := .bool false) rfl).1
    have d3 := (Rg.blk_cell AF 3 (x := .int .i64 0) rfl).1
    have d4 := (Rg.blk_cell AF 4 (x := .int .i64 0) rfl).1
    have d5 := (Rg.blk_cell AF 5 (x := .int .i64 0) rfl).1
    have d6 := (Rg.blk_cell AF 6 (x := .int .i64 0) rfl).1
    have d7 := (Rg.blk_cell AF 7 (x := .string ⟨#[]⟩) rfl).1
    have d8 := (Rg.blk_cell AF 8 (x := .slice none 0 0) rfl).1
    have d9 := (Rg.blk_cell AF 9 (x := .slice none 0 0) rfl).1
    exact bodyPost_ret (v := .tuple #[.agg #[.int .i64 0, .int .i64 0, .bool false, .int .i64 0, .int .i64 0, .int .i64 0, .int .i64 0, .string ⟨#[]⟩, .slice none 0 0, .slice none 0 0], .int .i64 1]) (by simp [results, Tryd.results10, go_sem, d0, d1, d2, d3, d4, d5, d6, d7, d8, d9]) rfl ⟨_, _, ret_tup (by rw [HV.out.1] <;> rfl) HV.out.2.symm, by rw [HV.out.1]; exact KF, GF⟩
  | true =>
  have HOKT : Hid (okB n c = true) := hok
  clear hok
  have X2 := HX.out w2 B2.out
  have c0 := (Rg.blk_cell X2.1.1 0 (x := .int .i64 c.id) rfl).1
  have c1 := (Rg.blk_cell X2.1.1 1 (x := .int .i64 c.st) rfl).1
  have c2 := (Rg.blk_cell X2.1.1 2 (x := .bool c.bu) rfl).1
  have c3 := (Rg.blk_cell X2.1.1 3 (x := .int .i64 c.rc) rfl).1
  have c4 := (Rg.blk_cell X2.1.1 4 (x := .int .i64 c.rs) rfl).1
  have c5 := (Rg.blk_cell X2.1.1 5 (x := .int .i64 c.rk) rfl).1
  have c6 := (Rg.blk_cell X2.1.1 6 (x := .int .i64 c.rl) rfl).1
  have c7 := (Rg.blk_cell X2.1.1 7 (x := .string c.rn) rfl).1
  have c8 := (Rg.blk_cell X2.1.1 8 (x := .slice ar c.re.length kr) rfl).1
  have c9 := (Rg.blk_cell X2.1.1 9 (x := .slice aa c.ac.length ka) rfl).1
  have HK := HCO.out w2 X2.2.1
  clear X2 HCO
  go_wp2_with fail
  refine HK.mono ?_
  rintro e w3 ⟨vr', va', rfl, HM3, b3⟩
  have B3 : Hid (Below wb.heap.size wb w3) := B2.out.trans (b3.mono B2.out.size)
  have b3s : Hid (w2.heap.size ≤ w3.heap.size) := b3.size
  clear b3 HK c0 c1 c2 c3 c4 c5 c6 c7 c8 c9
  obtain ⟨a1, k1, rfl⟩ := HM3.out.1.slice
  obtain ⟨a2, k2, rfl⟩ := HM3.out.2.slice
  have HK := stateOf_any c _ _ w3 HM3.out.has
  unfold clV at HK ⊢
  go_wp2_with fail
  refine HK.mono ?_
  rintro e w4 ⟨rfl, b4⟩
  have B4 : Hid (Below wb.heap.size wb w4) := B3.out.trans (b4.mono B3.out.size)
  have HM4 : Hid (Mine w4 w2.heap.size c (.slice a1 c.re.length k1) (.slice a2 c.ac.length k2)) := HM3.out.below b4
  have b4s : Hid (w3.heap.size ≤ w4.heap.size) := b4.size
  clear b4 HK HM3
  have X4 := HX.out w4 B4.out
  have e0 := (Rg.blk_cell X4.1.2.1 0 (x := .int .i64 x.nd) rfl).1
  have e1 := (Rg.blk_cell X4.1.2.1 1 (x := .int .i64 x.cl) rfl).1
  have e2 := (Rg.blk_cell X4.1.2.1 2 (x := .int .i64 x.st) rfl).1
  have e3 := (Rg.blk_cell X4.1.2.1 3 (x := .int .i64 x.kd) rfl).1
  have e4 := (Rg.blk_cell X4.1.2.1 4 (x := .int .i64 x.tk) rfl).1
  have e5 := (Rg.blk_cell X4.1.2.1 5 (x := .int .i64 x.hd) rfl).1
  have e6 := (Rg.blk_cell X4.1.2.1 6 (x := .int .i64 x.ex) rfl).1
  have e7 := (Rg.blk_cell X4.1.2.1 7 (x := .string x.mc) rfl).1
  have HK := HRO.out w4 X4.2.1
  clear X4 HRO
  go_wp2_with fail
  refine HK.mono ?_
  rintro e w5 ⟨rfl, b5⟩
  have B5 : Hid (Below wb.heap.size wb w5) := B4.out.trans (b5.mono B4.out.size)
  have HM5 : Hid (Mine w5 w2.heap.size c (.slice a1 c.re.length k1) (.slice a2 c.ac.length k2)) := HM4.out.below b5
  have HS2 : Hid (w.heap.size + 1 + 1 + 1 ≤ w2.heap.size ∧ w2.heap.size ≤ w5.heap.size ∧ wb.heap.size ≤ w2.heap.size) := by
    have q1 := (HX.out w2 B2.out).2.2
    exact ⟨q1, Nat.le_trans b3s.out (Nat.le_trans b4s.out b5.size), B2.out.size⟩
  clear b5 HK HM4 e0 e1 e2 e3 e4 e5 e6 e7
  cases hro : rokB n x with
  | false =>
    have HV : Hid (tkR n c x = c ∧ tkC n c x = 12) := tk_sig HOKT.out hro
    clear hro
    by_cases hb : c.bu = true
    · rw [st_wait hb]
      clear hb
      unfold clV
      have HK := client_waiting c a1 a2 c.re.length k1 c.ac.length k2 w5
      unfold clV at HK
      go_wp2_with fail
      refine HK.mono ?_
      rintro e w6 ⟨rfl, b6⟩
      have B6 : Hid (Below wb.heap.size wb w6) := B5.out.trans (b6.mono B5.out.size)
      have HM6 : Hid (Mine w6 w2.heap.size c (.slice a1 c.re.length k1) (.slice a2 c.ac.length k2)) := HM5.out.below b6
      clear b6 HK
      have Z9 := HX.out w6 (B6.out)
      obtain ⟨z0, fz0⟩ := Rg.blk_cell Z9.1.2.2 0 (x := .int .i64 0) rfl
      obtain ⟨z1, fz1⟩ := Rg.blk_cell Z9.1.2.2 1 (x := .int .i64 0) rfl
      obtain ⟨z2, fz2⟩ := Rg.blk_cell Z9.1.2.2 2 (x := .bool false) rfl
      obtain ⟨z3, fz3⟩ := Rg.blk_cell Z9.1.2.2 3 (x := .int .i64 0) rfl
      obtain ⟨z4, fz4⟩ := Rg.blk_cell Z9.1.2.2 4 (x := .int .i64 0) rfl
      obtain ⟨z5, fz5⟩ := Rg.blk_cell Z9.1.2.2 5 (x := .int .i64 0) rfl
      obtain ⟨z6, fz6⟩ := Rg.blk_cell Z9.1.2.2 6 (x := .int .i64 0) rfl
      obtain ⟨z7, fz7⟩ := Rg.blk_cell Z9.1.2.2 7 (x := .string ⟨#[]⟩) rfl
      obtain ⟨z8, fz8⟩ := Rg.blk_cell Z9.1.2.2 8 (x := .slice none 0 0) rfl
      obtain ⟨z9, fz9⟩ := Rg.blk_cell Z9.1.2.2 9 (x := .slice none 0 0) rfl
      obtain ⟨AF, HFB, GF0⟩ := set10 (.int .i64 0) (.int .i64 0) (.bool false) (.int .i64 0) (.int .i64 0) (.int .i64 0) (.int .i64 0) (.string ⟨#[]⟩) (.slice none 0 0) (.slice none 0 0) (.int .i64 c.id) (.int .i64 c.st) (.bool c.bu) (.int .i64 c.rc) (.int .i64 c.rs) (.int .i64 c.rk) (.int .i64 c.rl) (.string c.rn) (.slice a1 c.re.length k1) (.slice a2 c.ac.length k2) Z9.1.2.2
      have GF := GF0 (Z9.2.1) (Nat.le_trans (Nat.le_succ _) (Nat.le_succ _))
      have KF : Hid (Mine ((((((((((w6.setCell ⟨w.heap.size + 1 + 1, 0, none⟩ (.int .i64 c.id)).setCell ⟨w.heap.size + 1 + 1, 1, none⟩ (.int .i64 c.st)).setCell ⟨w.heap.size + 1 + 1, 2, none⟩ (.bool c.bu)).setCell ⟨w.heap.size + 1 + 1, 3, none⟩ (.int .i64 c.rc)).setCell ⟨w.heap.size + 1 + 1, 4, none⟩ (.int .i64 c.rs)).setCell ⟨w.heap.size + 1 + 1, 5, none⟩ (.int .i64 c.rk)).setCell ⟨w.heap.size + 1 + 1, 6, none⟩ (.int .i64 c.rl)).setCell ⟨w.heap.size + 1 + 1, 7, none⟩ (.string c.rn)).setCell ⟨w.heap.size + 1 + 1, 8, none⟩ (.slice a1 c.re.length k1)).setCell ⟨w.heap.size + 1 + 1, 9, none⟩ (.slice a2 c.ac.length k2)) w.heap.size c (.slice a1 c.re.length k1) (.slice a2 c.ac.length k2)) := (HM6.out.kept (fun g hg _ => HFB g (by have := HS2.out.1; omega))).mono (by have := HS2.out.1; omega)
      clear GF0 HFB Z9 
      go_wp2_with fail
      generalize ((((((((((w6.setCell ⟨w.heap.size + 1 + 1, 0, none⟩ (.int .i64 c.id)).setCell ⟨w.heap.size + 1 + 1, 1, none⟩ (.int .i64 c.st)).setCell ⟨w.heap.size + 1 + 1, 2, none⟩ (.bool c.bu)).setCell ⟨w.heap.size + 1 + 1, 3, none⟩ (.int .i64 c.rc)).setCell ⟨w.heap.size + 1 + 1, 4, none⟩ (.int .i64 c.rs)).setCell ⟨w.heap.size + 1 + 1, 5, none⟩ (.int .i64 c.rk)).setCell ⟨w.heap.size + 1 + 1, 6, none⟩ (.int .i64 c.rl)).setCell ⟨w.heap.size + 1 + 1, 7, none⟩ (.string c.rn)).setCell ⟨w.heap.size + 1 + 1, 8, none⟩ (.slice a1 c.re.length k1)).setCell ⟨w.heap.size + 1 + 1, 9, none⟩ (.slice a2 c.ac.length k2)) = wf at AF GF KF ⊢
      have d0 := (Rg.blk_cell AF 0 (x := .int .i64 c.id) rfl).1
      have d1 := (Rg.blk_cell AF 1 (x := .int .i64 c.st) rfl).1
      have d2 := (Rg.blk_cell AF 2 (x := .bool c.bu) rfl).1
      have d3 := (Rg.blk_cell AF 3 (x := .int .i64 c.rc) rfl).1
      have d4 := (Rg.blk_cell AF 4 (x := .int .i64 c.rs) rfl).1
      have d5 := (Rg.blk_cell AF 5 (x := .int .i64 c.rk) rfl).1
      have d6 := (Rg.blk_cell AF 6 (x := .int .i64 c.rl) rfl).1
      have d7 := (Rg.blk_cell AF 7 (x := .string c.rn) rfl).1
      have d8 := (Rg.blk_cell AF 8 (x := .slice a1 c.re.length k1) rfl).1
      have d9 := (Rg.blk_cell AF 9 (x := .slice a2 c.ac.length k2) rfl).1
      exact bodyPost_ret (v := .tuple #[.agg #[.int .i64 c.id, .int .i64 c.st, .bool c.bu, .int .i64 c.rc, .int .i64 c.rs, .int .i64 c.rk, .int .i64 c.rl, .string c.rn, .slice a1 c.re.length k1, .slice a2 c.ac.length k2], .int .i64 12]) (by simp [results, Tryd.results10, go_sem, d0, d1, d2, d3, d4, d5, d6, d7, d8, d9]) rfl ⟨_, _, ret_tup (by rw [HV.out.1] <;> rfl) HV.out.2.symm, by rw [HV.out.1]; exact KF, GF⟩
    · have hb2 : c.bu = false := by simpa using hb
      rw [st_rest hb2]
      clear hb hb2
      unfold clV
      have HK := client_resting c a1 a2 c.re.length k1 c.ac.length k2 w5
      unfold clV at HK
      go_wp2_with fail
      refine HK.mono ?_
      rintro e w6 ⟨rfl, b6⟩
      have B6 : Hid (Below wb.heap.size wb w6) := B5.out.trans (b6.mono B5.out.size)
      have HM6 : Hid (Mine w6 w2.heap.size c (.slice a1 c.re.length k1) (.slice a2 c.ac.length k2)) := HM5.out.below b6
      clear b6 HK
      have Z9 := HX.out w6 (B6.out)
      obtain ⟨z0, fz0⟩ := Rg.blk_cell Z9.1.2.2 0 (x := .int .i64 0) rfl
      obtain ⟨z1, fz1⟩ := Rg.blk_cell Z9.1.2.2 1 (x := .int .i64 0) rfl
      obtain ⟨z2, fz2⟩ := Rg.blk_cell Z9.1.2.2 2 (x := .bool false) rfl
      obtain ⟨z3, fz3⟩ := Rg.blk_cell Z9.1.2.2 3 (x := .int .i64 0) rfl
      obtain ⟨z4, fz4⟩ := Rg.blk_cell Z9.1.2.2 4 (x := .int .i64 0) rfl
      obtain ⟨z5, fz5⟩ := Rg.blk_cell Z9.1.2.2 5 (x := .int .i64 0) rfl
      obtain ⟨z6, fz6⟩ := Rg.blk_cell Z9.1.2.2 6 (x := .int .i64 0) rfl
      obtain ⟨z7, fz7⟩ := Rg.blk_cell Z9.1.2.2 7 (x := .string ⟨#[]⟩) rfl
      obtain ⟨z8, fz8⟩ := Rg.blk_cell Z9.1.2.2 8 (x := .slice none 0 0) rfl
      obtain ⟨z9, fz9⟩ := Rg.blk_cell Z9.1.2.2 9 (x := .slice none 0 0) rfl
      obtain ⟨AF, HFB, GF0⟩ := set10 (.int .i64 0) (.int .i64 0) (.bool false) (.int .i64 0) (.int .i64 0) (.int .i64 0) (.int .i64 0) (.string ⟨#[]⟩) (.slice none 0 0) (.slice none 0 0) (.int .i64 c.id) (.int .i64 c.st) (.bool c.bu) (.int .i64 c.rc) (.int .i64 c.rs) (.int .i64 c.rk) (.int .i64 c.rl) (.string c.rn) (.slice a1 c.re.length k1) (.slice a2 c.ac.length k2) Z9.1.2.2
      have GF := GF0 (Z9.2.1) (Nat.le_trans (Nat.le_succ _) (Nat.le_succ _))
      have KF : Hid (Mine ((((((((((w6.setCell ⟨w.heap.size + 1 + 1, 0, none⟩ (.int .i64 c.id)).setCell ⟨w.heap.size + 1 + 1, 1, none⟩ (.int .i64 c.st)).setCell ⟨w.heap.size + 1 + 1, 2, none⟩ (.bool c.bu)).setCell ⟨w.heap.size + 1 + 1, 3, none⟩ (.int .i64 c.rc)).setCell ⟨w.heap.size + 1 + 1, 4, none⟩ (.int .i64 c.rs)).setCell ⟨w.heap.size + 1 + 1, 5, none⟩ (.int .i64 c.rk)).setCell ⟨w.heap.size + 1 + 1, 6, none⟩ (.int .i64 c.rl)).setCell ⟨w.heap.size + 1 + 1, 7, none⟩ (.string c.rn)).setCell ⟨w.heap.size + 1 + 1, 8, none⟩ (.slice a1 c.re.length k1)).setCell ⟨w.heap.size + 1 + 1, 9, none⟩ (.slice a2 c.ac.length k2)) w.heap.size c (.slice a1 c.re.length k1) (.slice a2 c.ac.length k2)) := (HM6.out.kept (fun g hg _ => HFB g (by have := HS2.out.1; omega))).mono (by have := HS2.out.1; omega)
      clear GF0 HFB Z9 
      go_wp2_with fail
      generalize ((((((((((w6.setCell ⟨w.heap.size + 1 + 1, 0, none⟩ (.int .i64 c.id)).setCell ⟨w.heap.size + 1 + 1, 1, none⟩ (.int .i64 c.st)).setCell ⟨w.heap.size + 1 + 1, 2, none⟩ (.bool c.bu)).setCell ⟨w.heap.size + 1 + 1, 3, none⟩ (.int .i64 c.rc)).setCell ⟨w.heap.size + 1 + 1, 4, none⟩ (.int .i64 c.rs)).setCell ⟨w.heap.size + 1 + 1, 5, none⟩ (.int .i64 c.rk)).setCell ⟨w.heap.size + 1 + 1, 6, none⟩ (.int .i64 c.rl)).setCell ⟨w.heap.size + 1 + 1, 7, none⟩ (.string c.rn)).setCell ⟨w.heap.size + 1 + 1, 8, none⟩ (.slice a1 c.re.length k1)).setCell ⟨w.heap.size + 1 + 1, 9, none⟩ (.slice a2 c.ac.length k2)) = wf at AF GF KF ⊢
      have d0 := (Rg.blk_cell AF 0 (x := .int .i64 c.id) rfl).1
      have d1 := (Rg.blk_cell AF 1 (x := .int .i64 c.st) rfl).1
      have d2 := (Rg.blk_cell AF 2 (x := .bool c.bu) rfl).1
      have d3 := (Rg.blk_cell AF 3 (x := .int .i64 c.rc) rfl).1
      have d4 := (Rg.blk_cell AF 4 (x := .int .i64 c.rs) rfl).1
      have d5 := (Rg.blk_cell AF 5 (x := .int .i64 c.rk) rfl).1
      have d6 := (Rg.blk_cell AF 6 (x := .int .i64 c.rl) rfl).1
      have d7 := (Rg.blk_cell AF 7 (x := .string c.rn) rfl).1
      have d8 := (Rg.blk_cell AF 8 (x := .slice a1 c.re.length k1) rfl).1
      have d9 := (Rg.blk_cell AF 9 (x := .slice a2 c.ac.length k2) rfl).1
      exact bodyPost_ret (v := .tuple #[.agg #[.int .i64 c.id, .int .i64 c.st, .bool c.bu, .int .i64 c.rc, .int .i64 c.rs, .int .i64 c.rk, .int .i64 c.rl, .string c.rn, .slice a1 c.re.length k1, .slice a2 c.ac.length k2], .int .i64 12]) (by simp [results, Tryd.results10, go_sem, d0, d1, d2, d3, d4, d5, d6, d7, d8, d9]) rfl ⟨_, _, ret_tup (by rw [HV.out.1] <;> rfl) HV.out.2.symm, by rw [HV.out.1]; exact KF, GF⟩
  | true =>
  have HRT : Hid (rokB n x = true) := hro
  clear hro
  have X5 := HX.out w5 B5.out
  have e0 := (Rg.blk_cell X5.1.2.1 0 (x := .int .i64 x.nd) rfl).1
  have e1 := (Rg.blk_cell X5.1.2.1 1 (x := .int .i64 x.cl) rfl).1
  have e2 := (Rg.blk_cell X5.1.2.1 2 (x := .int .i64 x.st) rfl).1
  have e3 := (Rg.blk_cell X5.1.2.1 3 (x := .int .i64 x.kd) rfl).1
  have e4 := (Rg.blk_cell X5.1.2.1 4 (x := .int .i64 x.tk) rfl).1
  have e5 := (Rg.blk_cell X5.1.2.1 5 (x := .int .i64 x.hd) rfl).1
  have e6 := (Rg.blk_cell X5.1.2.1 6 (x := .int .i64 x.ex) rfl).1
  have e7 := (Rg.blk_cell X5.1.2.1 7 (x := .string x.mc) rfl).1
  clear X5
  by_cases hb : c.bu = true
  · have HV : Hid (tkR n c x = hdR n c x ∧ tkC n c x = hdC c x) := tk_wait HOKT.out HRT.out hb
    have HK := waitH_any n c (.slice a1 c.re.length k1) (.slice a2 c.ac.length k2) x w2.heap.size w5 HM5.out HS2.out.2.1 HZ.out.1 hb (HR.out _ (HX.out w5 B5.out).2.1).2.1 (by have := HZ.out.2; have := HS2.out.1; omega)
    rw [st_wait hb]
    clear hb
    unfold clV Gy.oneV at HK
    unfold clV
    generalize hdR n c x = d at HK HV
    generalize hdC c x = kk at HK HV
    go_wp2_with fail
    refine HK.mono ?_
    rintro e w6 ⟨vr6, va6, rfl, hm6, b6⟩
    have B6 : Hid (Below wb.heap.size wb w6) := B5.out.trans (b6.mono HS2.out.2.2)
    obtain ⟨a3, k3, rfl⟩ := hm6.1.slice
    obtain ⟨a4, k4, rfl⟩ := hm6.2.slice
    have HM6 : Hid (Mine w6 w2.heap.size d (.slice a3 d.re.length k3) (.slice a4 d.ac.length k4)) := hm6
    clear b6 HK hm6 HM5 e0 e1 e2 e3 e4 e5 e6 e7
    by_cases hd : d.bu = true
    · rw [st_wait hd]
      clear hd
      unfold clV
      have HK := client_waiting d a3 a4 d.re.length k3 d.ac.length k4 w6
      unfold clV at HK
      go_wp2_with fail
      refine HK.mono ?_
      rintro e w7 ⟨rfl, b7⟩
      have B7 : Hid (Below wb.heap.size wb w7) := B6.out.trans (b7.mono B6.out.size)
      have HM7 : Hid (Mine w7 w2.heap.size d (.slice a3 d.re.length k3) (.slice a4 d.ac.length k4)) := HM6.out.below b7
      clear b7 HK
      have Z9 := HX.out w7 (B7.out)
      obtain ⟨z0, fz0⟩ := Rg.blk_cell Z9.1.2.2 0 (x := .int .i64 0) rfl
      obtain ⟨z1, fz1⟩ := Rg.blk_cell Z9.1.2.2 1 (x := .int .i64 0) rfl
      obtain ⟨z2, fz2⟩ := Rg.blk_cell Z9.1.2.2 2 (x := .bool false) rfl
      obtain ⟨z3, fz3⟩ := Rg.blk_cell Z9.1.2.2 3 (x := .int .i64 0) rfl
      obtain ⟨z4, fz4⟩ := Rg.blk_cell Z9.1.2.2 4 (x := .int .i64 0) rfl
      obtain ⟨z5, fz5⟩ := Rg.blk_cell Z9.1.2.2 5 (x := .int .i64 0) rfl
      obtain ⟨z6, fz6⟩ := Rg.blk_cell Z9.1.2.2 6 (x := .int .i64 0) rfl
      obtain ⟨z7, fz7⟩ := Rg.blk_cell Z9.1.2.2 7 (x := .string ⟨#[]⟩) rfl
      obtain ⟨z8, fz8⟩ := Rg.blk_cell Z9.1.2.2 8 (x := .slice none 0 0) rfl
      obtain ⟨z9, fz9⟩ := Rg.blk_cell Z9.1.2.2 9 (x := .slice none 0 0) rfl
      obtain ⟨AF, HFB, GF0⟩ := set10 (.int .i64 0) (.int .i64 0) (.bool false) (.int .i64 0) (.int .i64 0) (.int .i64 0) (.int .i64 0) (.string ⟨#[]⟩) (.slice none 0 0) (.slice none 0 0) (.int .i64 d.id) (.int .i64 d.st) (.bool d.bu) (.int .i64 d.rc) (.int .i64 d.rs) (.int .i64 d.rk) (.int .i64 d.rl) (.string d.rn) (.slice a3 d.re.length k3) (.slice a4 d.ac.length k4) Z9.1.2.2
      have GF := GF0 (Z9.2.1) (Nat.le_trans (Nat.le_succ _) (Nat.le_succ _))
      have KF : Hid (Mine ((((((((((w7.setCell ⟨w.heap.size + 1 + 1, 0, none⟩ (.int .i64 d.id)).setCell ⟨w.heap.size + 1 + 1, 1, none⟩ (.int .i64 d.st)).setCell ⟨w.heap.size + 1 + 1, 2, none⟩ (.bool d.bu)).setCell ⟨w.heap.size + 1 + 1, 3, none⟩ (.int .i64 d.rc)).setCell ⟨w.heap.size + 1 + 1, 4, none⟩ (.int .i64 d.rs)).setCell ⟨w.heap.size + 1 + 1, 5, none⟩ (.int .i64 d.rk)).setCell ⟨w.heap.size + 1 + 1, 6, none⟩ (.int .i64 d.rl)).setCell ⟨w.heap.size + 1 + 1, 7, none⟩ (.string d.rn)).setCell ⟨w.heap.size + 1 + 1, 8, none⟩ (.slice a3 d.re.length k3)).setCell ⟨w.heap.size + 1 + 1, 9, none⟩ (.slice a4 d.ac.length k4)) w.heap.size d (.slice a3 d.re.length k3) (.slice a4 d.ac.length k4)) := (HM7.out.kept (fun g hg _ => HFB g (by have := HS2.out.1; omega))).mono (by have := HS2.out.1; omega)
      clear GF0 HFB Z9 
      go_wp2_with fail
      generalize ((((((((((w7.setCell ⟨w.heap.size + 1 + 1, 0, none⟩ (.int .i64 d.id)).setCell ⟨w.heap.size + 1 + 1, 1, none⟩ (.int .i64 d.st)).setCell ⟨w.heap.size + 1 + 1, 2, none⟩ (.bool d.bu)).setCell ⟨w.heap.size + 1 + 1, 3, none⟩ (.int .i64 d.rc)).setCell ⟨w.heap.size + 1 + 1, 4, none⟩ (.int .i64 d.rs)).setCell ⟨w.heap.size + 1 + 1, 5, none⟩ (.int .i64 d.rk)).setCell ⟨w.heap.size + 1 + 1, 6, none⟩ (.int .i64 d.rl)).setCell ⟨w.heap.size + 1 + 1, 7, none⟩ (.string d.rn)).setCell ⟨w.heap.size + 1 + 1, 8, none⟩ (.slice a3 d.re.length k3)).setCell ⟨w.heap.size + 1 + 1, 9, none⟩ (.slice a4 d.ac.length k4)) = wf at AF GF KF ⊢
      have d0 := (Rg.blk_cell AF 0 (x := .int .i64 d.id) rfl).1
      have d1 := (Rg.blk_cell AF 1 (x := .int .i64 d.st) rfl).1
      have d2 := (Rg.blk_cell AF 2 (x := .bool d.bu) rfl).1
      have d3 := (Rg.blk_cell AF 3 (x := .int .i64 d.rc) rfl).1
      have d4 := (Rg.blk_cell AF 4 (x := .int .i64 d.rs) rfl).1
      have d5 := (Rg.blk_cell AF 5 (x := .int .i64 d.rk) rfl).1
      have d6 := (Rg.blk_cell AF 6 (x := .int .i64 d.rl) rfl).1
      have d7 := (Rg.blk_cell AF 7 (x := .string d.rn) rfl).1
      have d8 := (Rg.blk_cell AF 8 (x := .slice a3 d.re.length k3) rfl).1
      have d9 := (Rg.blk_cell AF 9 (x := .slice a4 d.ac.length k4) rfl).1
      exact bodyPost_ret (v := .tuple #[.agg #[.int .i64 d.id, .int .i64 d.st, .bool d.bu, .int .i64 d.rc, .int .i64 d.rs, .int .i64 d.rk, .int .i64 d.rl, .string d.rn, .slice a3 d.re.length k3, .slice a4 d.ac.length k4], .int .i64 kk]) (by simp [results, Tryd.results10, go_sem, d0, d1, d2, d3, d4, d5, d6, d7, d8, d9]) rfl ⟨_, _, ret_tup (by rw [HV.out.1] <;> rfl) HV.out.2.symm, by rw [HV.out.1]; exact KF, GF⟩
    · have hd2 : d.bu = false := by simpa using hd
      rw [st_rest hd2]
      clear hd hd2
      unfold clV
      have HK := client_resting d a3 a4 d.re.length k3 d.ac.length k4 w6
      unfold clV at HK
      go_wp2_with fail
      refine HK.mono ?_
      rintro e w7 ⟨rfl, b7⟩
      have B7 : Hid (Below wb.heap.size wb w7) := B6.out.trans (b7.mono B6.out.size)
      have HM7 : Hid (Mine w7 w2.heap.size d (.slice a3 d.re.length k3) (.slice a4 d.ac.length k4)) := HM6.out.below b7
      clear b7 HK
      have Z9 := HX.out w7 (B7.out)
      obtain ⟨z0, fz0⟩ := Rg.blk_cell Z9.1.2.2 0 (x := .int .i64 0) rfl
      obtain ⟨z1, fz1⟩ := Rg.blk_cell Z9.1.2.2 1 (x := .int .i64 0) rfl
      obtain ⟨z2, fz2⟩ := Rg.blk_cell Z9.1.2.2 2 (x := .bool false) rfl
      obtain ⟨z3, fz3⟩ := Rg.blk_cell Z9.1.2.2 3 (x := .int .i64 0) rfl
      obtain ⟨z4, fz4⟩ := Rg.blk_cell Z9.1.2.2 4 (x := .int .i64 0) rfl
      obtain ⟨z5, fz5⟩ := Rg.blk_cell Z9.1.2.2 5 (x := .int .i64 0) rfl
      obtain ⟨z6, fz6⟩ := Rg.blk_cell Z9.1.2.2 6 (x := .int .i64 0) rfl
      obtain ⟨z7, fz7⟩ := Rg.blk_cell Z9.1.2.2 7 (x := .string ⟨#[]⟩) rfl
      obtain ⟨z8, fz8⟩ := Rg.blk_cell Z9.1.2.2 8 (x := .slice none 0 0) rfl
      obtain ⟨z9, fz9⟩ := Rg.blk_cell Z9.1.2.2 9 (x := .slice none 0 0) rfl
      obtain ⟨AF, HFB, GF0⟩ := set10 (.int .i64 0) (.int .i64 0) (.bool false) (.int .i64 0) (.int .i64 0) (.int .i64 0) (.int .i64 0) (.string ⟨#[]⟩) (.slice none 0 0) (.slice none 0 0) (.int .i64 d.id) (.int .i64 d.st) (.bool d.bu) (.int .i64 d.rc) (.int .i64 d.rs) (.int .i64 d.rk) (.int .i64 d.rl) (.string d.rn) (.slice a3 d.re.length k3) (.slice a4 d.ac.length k4) Z9.1.2.2
      have GF := GF0 (Z9.2.1) (Nat.le_trans (Nat.le_succ _) (Nat.le_succ _))
      have KF : Hid (Mine ((((((((((w7.setCell ⟨w.heap.size + 1 + 1, 0, none⟩ (.int .i64 d.id)).setCell ⟨w.heap.size + 1 + 1, 1, none⟩ (.int .i64 d.st)).setCell ⟨w.heap.size + 1 + 1, 2, none⟩ (.bool d.bu)).setCell ⟨w.heap.size + 1 + 1, 3, none⟩ (.int .i64 d.rc)).setCell ⟨w.heap.size + 1 + 1, 4, none⟩ (.int .i64 d.rs)).setCell ⟨w.heap.size + 1 + 1, 5, none⟩ (.int .i64 d.rk)).setCell ⟨w.heap.size + 1 + 1, 6, none⟩ (.int .i64 d.rl)).setCell ⟨w.heap.size + 1 + 1, 7, none⟩ (.string d.rn)).setCell ⟨w.heap.size + 1 + 1, 8, none⟩ (.slice a3 d.re.length k3)).setCell ⟨w.heap.size + 1 + 1, 9, none⟩ (.slice a4 d.ac.length k4)) w.heap.size d (.slice a3 d.re.length k3) (.slice a4 d.ac.length k4)) := (HM7.out.kept (fun g hg _ => HFB g (by have := HS2.out.1; omega))).mono (by have := HS2.out.1; omega)
      clear GF0 HFB Z9 
      go_wp2_with fail
      generalize ((((((((((w7.setCell ⟨w.heap.size + 1 + 1, 0, none⟩ (.int .i64 d.id)).setCell ⟨w.heap.size + 1 + 1, 1, none⟩ (.int .i64 d.st)).setCell ⟨w.heap.size + 1 + 1, 2, none⟩ (.bool d.bu)).setCell ⟨w.heap.size + 1 + 1, 3, none⟩ (.int .i64 d.rc)).setCell ⟨w.heap.size + 1 + 1, 4, none⟩ (.int .i64 d.rs)).setCell ⟨w.heap.size + 1 + 1, 5, none⟩ (.int .i64 d.rk)).setCell ⟨w.heap.size + 1 + 1, 6, none⟩ (.int .i64 d.rl)).setCell ⟨w.heap.size + 1 + 1, 7, none⟩ (.string d.rn)).setCell ⟨w.heap.size + 1 + 1, 8, none⟩ (.slice a3 d.re.length k3)).setCell ⟨w.heap.size + 1 + 1, 9, none⟩ (.slice a4 d.ac.length k4)) = wf at AF GF KF ⊢
      have d0 := (Rg.blk_cell AF 0 (x := .int .i64 d.id) rfl).1
      have d1 := (Rg.blk_cell AF 1 (x := .int .i64 d.st) rfl).1
      have d2 := (Rg.blk_cell AF 2 (x := .bool d.bu) rfl).1
      have d3 := (Rg.blk_cell AF 3 (x := .int .i64 d.rc) rfl).1
      have d4 := (Rg.blk_cell AF 4 (x := .int .i64 d.rs) rfl).1
      have d5 := (Rg.blk_cell AF 5 (x := .int .i64 d.rk) rfl).1
      have d6 := (Rg.blk_cell AF 6 (x := .int .i64 d.rl) rfl).1
      have d7 := (Rg.blk_cell AF 7 (x := .string d.rn) rfl).1
      have d8 := (Rg.blk_cell AF 8 (x := .slice a3 d.re.length k3) rfl).1
      have d9 := (Rg.blk_cell AF 9 (x := .slice a4 d.ac.length k4) rfl).1
      exact bodyPost_ret (v := .tuple #[.agg #[.int .i64 d.id, .int .i64 d.st, .bool d.bu, .int .i64 d.rc, .int .i64 d.rs, .int .i64 d.rk, .int .i64 d.rl, .string d.rn, .slice a3 d.re.length k3, .slice a4 d.ac.length k4], .int .i64 kk]) (by simp [results, Tryd.results10, go_sem, d0, d1, d2, d3, d4, d5, d6, d7, d8, d9]) rfl ⟨_, _, ret_tup (by rw [HV.out.1] <;> rfl) HV.out.2.symm, by rw [HV.out.1]; exact KF, GF⟩
  · have hb2 : c.bu = false := by simpa using hb
    have HV : Hid (tkR n c x = c ∧ tkC n c x = 16) := tk_rest HOKT.out HRT.out hb2
    have HK := restH_any n c a1 a2 c.re.length k1 c.ac.length k2 x w5
    rw [st_rest hb2]
    clear hb hb2
    unfold clV Gy.oneV at HK
    unfold clV
    go_wp2_with fail
    refine HK.mono ?_
    rintro e w6 ⟨rfl, b6⟩
    have B6 : Hid (Below wb.heap.size wb w6) := B5.out.trans (b6.mono B5.out.size)
    have HM6 : Hid (Mine w6 w2.heap.size c (.slice a1 c.re.length k1) (.slice a2 c.ac.length k2)) := HM5.out.below b6
    clear b6 HK HM5 e0 e1 e2 e3 e4 e5 e6 e7
    have HK := client_resting c a1 a2 c.re.length k1 c.ac.length k2 w6
    unfold clV at HK
    go_wp2_with fail
    refine HK.mono ?_
    rintro e w7 ⟨rfl, b7⟩
    have B7 : Hid (Below wb.heap.size wb w7) := B6.out.trans (b7.mono B6.out.size)
    have HM7 : Hid (Mine w7 w2.heap.size c (.slice a1 c.re.length k1) (.slice a2 c.ac.length k2)) := HM6.out.below b7
    clear b7 HK
    have Z9 := HX.out w7 (B7.out)
    obtain ⟨z0, fz0⟩ := Rg.blk_cell Z9.1.2.2 0 (x := .int .i64 0) rfl
    obtain ⟨z1, fz1⟩ := Rg.blk_cell Z9.1.2.2 1 (x := .int .i64 0) rfl
    obtain ⟨z2, fz2⟩ := Rg.blk_cell Z9.1.2.2 2 (x := .bool false) rfl
    obtain ⟨z3, fz3⟩ := Rg.blk_cell Z9.1.2.2 3 (x := .int .i64 0) rfl
    obtain ⟨z4, fz4⟩ := Rg.blk_cell Z9.1.2.2 4 (x := .int .i64 0) rfl
    obtain ⟨z5, fz5⟩ := Rg.blk_cell Z9.1.2.2 5 (x := .int .i64 0) rfl
    obtain ⟨z6, fz6⟩ := Rg.blk_cell Z9.1.2.2 6 (x := .int .i64 0) rfl
    obtain ⟨z7, fz7⟩ := Rg.blk_cell Z9.1.2.2 7 (x := .string ⟨#[]⟩) rfl
    obtain ⟨z8, fz8⟩ := Rg.blk_cell Z9.1.2.2 8 (x := .slice none 0 0) rfl
    obtain ⟨z9, fz9⟩ := Rg.blk_cell Z9.1.2.2 9 (x := .slice none 0 0) rfl
    obtain ⟨AF, HFB, GF0⟩ := set10 (.int .i64 0) (.int .i64 0) (.bool false) (.int .i64 0) (.int .i64 0) (.int .i64 0) (.int .i64 0) (.string ⟨#[]⟩) (.slice none 0 0) (.slice none 0 0) (.int .i64 c.id) (.int .i64 c.st) (.bool c.bu) (.int .i64 c.rc) (.int .i64 c.rs) (.int .i64 c.rk) (.int .i64 c.rl) (.string c.rn) (.slice a1 c.re.length k1) (.slice a2 c.ac.length k2) Z9.1.2.2
    have GF := GF0 (Z9.2.1) (Nat.le_trans (Nat.le_succ _) (Nat.le_succ _))
    have KF : Hid (Mine ((((((((((w7.setCell ⟨w.heap.size + 1 + 1, 0, none⟩ (.int .i64 c.id)).setCell ⟨w.heap.size + 1 + 1, 1, none⟩ (.int .i64 c.st)).setCell ⟨w.heap.size + 1 + 1, 2, none⟩ (.bool c.bu)).setCell ⟨w.heap.size + 1 + 1, 3, none⟩ (.int .i64 c.rc)).setCell ⟨w.heap.size + 1 + 1, 4, none⟩ (.int .i64 c.rs)).setCell ⟨w.heap.size + 1 + 1, 5, none⟩ (.int .i64 c.rk)).setCell ⟨w.heap.size + 1 + 1, 6, none⟩ (.int .i64 c.rl)).setCell ⟨w.heap.size + 1 + 1, 7, none⟩ (.string c.rn)).setCell ⟨w.heap.size + 1 + 1, 8, none⟩ (.slice a1 c.re.length k1)).setCell ⟨w.heap.size + 1 + 1, 9, none⟩ (.slice a2 c.ac.length k2)) w.heap.size c (.slice a1 c.re.length k1) (.slice a2 c.ac.length k2)) := (HM7.out.kept (fun g hg _ => HFB g (by have := HS2.out.1; omega))).mono (by have := HS2.out.1; omega)
    clear GF0 HFB Z9 
    go_wp2_with fail
    generalize ((((((((((w7.setCell ⟨w.heap.size + 1 + 1, 0, none⟩ (.int .i64 c.id)).setCell ⟨w.heap.size + 1 + 1, 1, none⟩ (.int .i64 c.st)).setCell ⟨w.heap.size + 1 + 1, 2, none⟩ (.bool c.bu)).setCell ⟨w.heap.size + 1 + 1, 3, none⟩ (.int .i64 c.rc)).setCell ⟨w.heap.size + 1 + 1, 4, none⟩ (.int .i64 c.rs)).setCell ⟨w.heap.size + 1 + 1, 5, none⟩ (.int .i64 c.rk)).setCell ⟨w.heap.size + 1 + 1, 6, none⟩ (.int .i64 c.rl)).setCell ⟨w.heap.size + 1 + 1, 7, none⟩ (.string c.rn)).setCell ⟨w.heap.size + 1 + 1, 8, none⟩ (.slice a1 c.re.length k1)).setCell ⟨w.heap.size + 1 + 1, 9, none⟩ (.slice a2 c.ac.length k2)) = wf at AF GF KF ⊢
    have d0 := (Rg.blk_cell AF 0 (x := .int .i64 c.id) rfl).1
    have d1 := (Rg.blk_cell AF 1 (x := .int .i64 c.st) rfl).1
    have d2 := (Rg.blk_cell AF 2 (x := .bool c.bu) rfl).1
    have d3 := (Rg.blk_cell AF 3 (x := .int .i64 c.rc) rfl).1
    have d4 := (Rg.blk_cell AF 4 (x := .int .i64 c.rs) rfl).1
    have d5 := (Rg.blk_cell AF 5 (x := .int .i64 c.rk) rfl).1
    have d6 := (Rg.blk_cell AF 6 (x := .int .i64 c.rl) rfl).1
    have d7 := (Rg.blk_cell AF 7 (x := .string c.rn) rfl).1
    have d8 := (Rg.blk_cell AF 8 (x := .slice a1 c.re.length k1) rfl).1
    have d9 := (Rg.blk_cell AF 9 (x := .slice a2 c.ac.length k2) rfl).1
    exact bodyPost_ret (v := .tuple #[.agg #[.int .i64 c.id, .int .i64 c.st, .bool c.bu, .int .i64 c.rc, .int .i64 c.rs, .int .i64 c.rk, .int .i64 c.rl, .string c.rn, .slice a1 c.re.length k1, .slice a2 c.ac.length k2], .int .i64 16]) (by simp [results, Tryd.results10, go_sem, d0, d1, d2, d3, d4, d5, d6, d7, d8, d9]) rfl ⟨_, _, ret_tup (by rw [HV.out.1] <;> rfl) HV.out.2.symm, by rw [HV.out.1]; exact KF, GF⟩
end Go.Proofs.YtiflfcpoajijaaaDoor.Cl

/- ClientCall of the program. -/
namespace Go.Proofs.YtiflfcpoajijaaaDoor.Cl
open Go.RowKit Go.Proofs.YtiflfcpoajijaaaDoor.Sl Go.Proofs.YtiflfcpoajijaaaDoor.Rg
open Go.Proofs.YtiflfcpoajijaaaDoor.Gy (Re)
open Go.Proofs.YtiflfcpoajijaaaDoor.Rk (An anV ccR ccA ccC cc_cases implCountReplies_any)
open Go.Proofs.YtiflfcpoajijaaaDoor.Rq (reqB implRequestOK_any)
open Go.Proofs.YtiflfcpoajijaaaDoor.Ry (anB answerOK_any rokB lokB implReplyOK_any)
open Go.Proofs.YtiflfcpoajijaaaDoor.Rm (inR within_any)
open Go.Proofs.YtiflfcpoajijaaaDoor.Tm (fCode fOut f_cases implFaultsOf_any)
open Go.Proofs.YtiflfcpoajijaaaDoor.Sh (KTab KTab.below)

open Go.Proofs.YtiflfcpoajijaaaDoor.Rr11 (OwnR)
open Go.Proofs.YtiflfcpoajijaaaDoor.Ox (OwnX)
open Go.Proofs.YtiflfcpoajijaaaDoor.Rq (reqB implRequestOK_any)
/-- What a call answers. -/
def cal (c : Cd) (k l : Int) (nm : ByteArray) : Cd := ⟨c.id, c.st + 1, true, c.id, c.st + 1, k, l, nm, [], c.ac⟩
def caR (n : Int) (c : Cd) (k l : Int) (nm : ByteArray) : Cd := if 65536 < nm.size then zC else if okB n c = true then (if c.bu = true then c else if c.st = 4000 then c else if reqB c.id (c.st + 1) k l nm = true then cal c k l nm else c) else zC
def caC (n : Int) (c : Cd) (k l : Int) (nm : ByteArray) : Int := if 65536 < nm.size then 2 else if okB n c = true then (if c.bu = true then 15 else if c.st = 4000 then 13 else if reqB c.id (c.st + 1) k l nm = true then 0 else 3) else 1
theorem ca_long {n : Int} {c : Cd} {k l : Int} {nm : ByteArray} (h : 65536 < nm.size) : caR n c k l nm = zC ∧ caC n c k l nm = 2 := ⟨if_pos h, if_pos h⟩
theorem ca_bad {n : Int} {c : Cd} {k l : Int} {nm : ByteArray} (h : ¬ 65536 < nm.size) (h1 : okB n c = false) : caR n c k l nm = zC ∧ caC n c k l nm = 1 := by unfold caR caC; rw [if_neg h, if_neg h, h1]; exact ⟨rfl, rfl⟩
theorem ca_wait {n : Int} {c : Cd} {k l : Int} {nm : ByteArray} (h : ¬ 65536 < nm.size) (h1 : okB n c = true) (h2 : c.bu = true) : caR n c k l nm = c ∧ caC n c k l nm = 15 := by unfold caR caC; rw [if_neg h, if_neg h, if_pos h1, if_pos h1, if_pos h2, if_pos h2]; exact ⟨rfl, rfl⟩
theorem ca_used {n : Int} {c : Cd} {k l : Int} {nm : ByteArray} (h : ¬ 65536 < nm.size) (h1 : okB n c = true) (h2 : ¬ c.bu = true) (h3 : c.st = 4000) : caR n c k l nm = c ∧ caC n c k l nm = 13 := by unfold caR caC; rw [if_neg h, if_neg h, if_pos h1, if_pos h1, if_neg h2, if_neg h2, if_pos h3, if_pos h3]; exact ⟨rfl, rfl⟩
theorem ca_form {n : Int} {c : Cd} {k l : Int} {nm : ByteArray} (h : ¬ 65536 < nm.size) (h1 : okB n c = true) (h2 : ¬ c.bu = true) (h3 : ¬ c.st = 4000) (h4 : reqB c.id (c.st + 1) k l nm = false) : caR n c k l nm = c ∧ caC n c k l nm = 3 := by unfold caR caC; rw [if_neg h, if_neg h, if_pos h1, if_pos h1, if_neg h2, if_neg h2, if_neg h3, if_neg h3, h4]; exact ⟨rfl, rfl⟩
theorem ca_go {n : Int} {c : Cd} {k l : Int} {nm : ByteArray} (h : ¬ 65536 < nm.size) (h1 : okB n c = true) (h2 : ¬ c.bu = true) (h3 : ¬ c.st = 4000) (h4 : reqB c.id (c.st + 1) k l nm = true) : caR n c k l nm = cal c k l nm ∧ caC n c k l nm = 0 := by unfold caR caC; rw [if_neg h, if_neg h, if_pos h1, if_pos h1, if_neg h2, if_neg h2, if_neg h3, if_neg h3, h4]; exact ⟨rfl, rfl⟩
theorem ok_st {n : Int} {c : Cd} (h : okB n c = true) : 0 ≤ c.st ∧ c.st ≤ 65535 := by
  unfold okB at h
  simp only [Bool.and_eq_true] at h
  have h2 := h.2.2.1
  unfold inR at h2
  simpa using h2
set_option maxRecDepth 100000 in
set_option maxHeartbeats 1600000 in
theorem waitC_any (c : Cd) (ar aa : Option Addr) (nr kr na ka : Nat) (k l : Int) (nm : ByteArray) (w : World) :
    Calls Tryd.prog 66 #[clV c (.slice ar nr kr) (.slice aa na ka), .int .i64 k, .string nm, .int .i64 l] w fun e w' => e = .returned (.tuple #[.iface 70 (clV c (.slice ar nr kr) (.slice aa na ka)), .int .i64 15]) ∧ Below w.heap.size w w' := by
  have HX : Hid (∀ W, Below (w.alloc (.cells #[.int .i64 c.id, .int .i64 c.st, .bool c.bu, .int .i64 c.rc, .int .i64 c.rs, .int .i64 c.rk, .int .i64 c.rl, .string c.rn, .slice ar nr kr, .slice aa na ka] 70)).heap.size (w.alloc (.cells #[.int .i64 c.id, .int .i64 c.st, .bool c.bu, .int .i64 c.rc, .int .i64 c.rs, .int .i64 c.rk, .int .i64 c.rl, .string c.rn, .slice ar nr kr, .slice aa na ka] 70)) W → (W.cell? ⟨w.heap.size, 0, none⟩ = some (.int .i64 c.id) ∧ W.cell? ⟨w.heap.size, 1, none⟩ = some (.int .i64 c.st) ∧ W.cell? ⟨w.heap.size, 2, none⟩ = some (.bool c.bu) ∧ W.cell? ⟨w.heap.size, 3, none⟩ = some (.int .i64 c.rc) ∧ W.cell? ⟨w.heap.size, 4, none⟩ = some (.int .i64 c.rs) ∧ W.cell? ⟨w.heap.size, 5, none⟩ = some (.int .i64 c.rk) ∧ W.cell? ⟨w.heap.size, 6, none⟩ = some (.int .i64 c.rl) ∧ W.cell? ⟨w.heap.size, 7, none⟩ = some (.string c.rn) ∧ W.cell? ⟨w.heap.size, 8, none⟩ = some (.slice ar nr kr) ∧ W.cell? ⟨w.heap.size, 9, none⟩ = some (.slice aa na ka)) ∧ Below w.heap.size w W) := fun W hW => by
    have h1 := (hW.block w.heap.size (by simp)).trans (heap_alloc_new w _)
    exact ⟨⟨(Rg.blk_cell h1 0 rfl).1, (Rg.blk_cell h1 1 rfl).1, (Rg.blk_cell h1 2 rfl).1, (Rg.blk_cell h1 3 rfl).1, (Rg.blk_cell h1 4 rfl).1, (Rg.blk_cell h1 5 rfl).1, (Rg.blk_cell h1 6 rfl).1, (Rg.blk_cell h1 7 rfl).1, (Rg.blk_cell h1 8 rfl).1, (Rg.blk_cell h1 9 rfl).1⟩, (bel_new w _).trans (hW.mono (by simp))⟩
  unfold clV
  go_enter Tryd.func66, Tryd.ntmps66
  go_upto_region 1 with fail
  generalize w.alloc (.cells #[.int .i64 c.id, .int .i64 c.st, .bool c.bu, .int .i64 c.rc, .int .i64 c.rs, .int .i64 c.rk, .int .i64 c.rl, .string c.rn, .slice ar nr kr, .slice aa na ka] 70) = wb at HX ⊢
  obtain ⟨⟨c0, c1, c2, c3, c4, c5, c6, c7, c8, c9⟩, g0⟩ := HX.out wb (Below.refl _ _)
  clear HX
  go_wp2_with fail
  exact bodyPost_ret (v := .tuple #[.iface 70 (.agg #[.int .i64 c.id, .int .i64 c.st, .bool c.bu, .int .i64 c.rc, .int .i64 c.rs, .int .i64 c.rk, .int .i64 c.rl, .string c.rn, .slice ar nr kr, .slice aa na ka]), .int .i64 15]) (by simp [results, Tryd.results66, go_sem]) rfl ⟨rfl, g0⟩
set_option maxRecDepth 100000 in
set_option maxHeartbeats 1600000 in
theorem restU_any (c : Cd) (ar aa : Option Addr) (nr kr na ka : Nat) (k l : Int) (nm : ByteArray) (w : World) (h4 : c.st = 4000) :
    Calls Tryd.prog 88 #[clV c (.slice ar nr kr) (.slice aa na ka), .int .i64 k, .string nm, .int .i64 l] w fun e w' => e = .returned (.tuple #[.iface 71 (clV c (.slice ar nr kr) (.slice aa na ka)), .int .i64 13]) ∧ Below w.heap.size w w' := by
  have h5 : (c.st == 4000) = true := by rw [h4]; rfl
  clear h4
  have HX : Hid (∀ W, Below (w.alloc (.cells #[.int .i64 c.id, .int .i64 c.st, .bool c.bu, .int .i64 c.rc, .int .i64 c.rs, .int .i64 c.rk, .int .i64 c.rl, .string c.rn, .slice ar nr kr, .slice aa na ka] 71)).heap.size (w.alloc (.cells #[.int .i64 c.id, .int .i64 c.st, .bool c.bu, .int .i64 c.rc, .int .i64 c.rs, .int .i64 c.rk, .int .i64 c.rl, .string c.rn, .slice ar nr kr, .slice aa na ka] 71)) W → (W.cell? ⟨w.heap.size, 0, none⟩ = some (.int .i64 c.id) ∧ W.cell? ⟨w.heap.size, 1, none⟩ = some (.int .i64 c.st) ∧ W.cell? ⟨w.heap.size, 2, none⟩ = some (.bool c.bu) ∧ W.cell? ⟨w.heap.size, 3, none⟩ = some (.int .i64 c.rc) ∧ W.cell? ⟨w.heap.size, 4, none⟩ = some (.int .i64 c.rs) ∧ W.cell? ⟨w.heap.size, 5, none⟩ = some (.int .i64 c.rk) ∧ W.cell? ⟨w.heap.size, 6, none⟩ = some (.int .i64 c.rl) ∧ W.cell? ⟨w.heap.size, 7, none⟩ = some (.string c.rn) ∧ W.cell? ⟨w.heap.size, 8, none⟩ = some (.slice ar nr kr) ∧ W.cell? ⟨w.heap.size, 9, none⟩ = some (.slice aa na ka)) ∧ Below w.heap.size w W) := fun W hW => by
    have h1 := (hW.block w.heap.size (by simp)).trans (heap_alloc_new w _)
    exact ⟨⟨(Rg.blk_cell h1 0 rfl).1, (Rg.blk_cell h1 1 rfl).1, (Rg.blk_cell h1 2 rfl).1, (Rg.blk_cell h1 3 rfl).1, (Rg.blk_cell h1 4 rfl).1, (Rg.blk_cell h1 5 rfl).1, (Rg.blk_cell h1 6 rfl).1, (Rg.blk_cell h1 7 rfl).1, (Rg.blk_cell h1 8 rfl).1, (Rg.blk_cell h1 9 rfl).1⟩, (bel_new w _).trans (hW.mono (by simp))⟩
  unfold clV
  go_enter Tryd.func88, Tryd.ntmps88
  go_upto_region 1 with fail
  generalize w.alloc (.cells #[.int .i64 c.id, .int .i64 c.st, .bool c.bu, .int .i64 c.rc, .int .i64 c.rs, .int .i64 c.rk, .int .i64 c.rl, .string c.rn, .slice ar nr kr, .slice aa na ka] 71) = wb at HX ⊢
  obtain ⟨⟨c0, c1, c2, c3, c4, c5, c6, c7, c8, c9⟩, g0⟩ := HX.out wb (Below.refl _ _)
  clear HX
  go_wp2_with fail
  exact bodyPost_ret (v := .tuple #[.iface 71 (.agg #[.int .i64 c.id, .int .i64 c.st, .bool c.bu, .int .i64 c.rc, .int .i64 c.rs, .int .i64 c.rk, .int .i64 c.rl, .string c.rn, .slice ar nr kr, .slice aa na ka]), .int .i64 13]) (by simp [results, Tryd.results88, go_sem]) rfl ⟨rfl, g0⟩
set_option maxRecDepth 100000 in
set_option maxHeartbeats 1600000 in
theorem restF_any (c : Cd) (ar aa : Option Addr) (nr kr na ka : Nat) (k l : Int) (nm : ByteArray) (w : World) (h4 : ¬ c.st = 4000) (hs0 : 0 ≤ c.st) (hs1 : c.st ≤ 65535) (hn : nm.size ≤ maxLen) (hr : reqB c.id (c.st + 1) k l nm = false) :
    Calls Tryd.prog 88 #[clV c (.slice ar nr kr) (.slice aa na ka), .int .i64 k, .string nm, .int .i64 l] w fun e w' => e = .returned (.tuple #[.iface 71 (clV c (.slice ar nr kr) (.slice aa na ka)), .int .i64 3]) ∧ Below w.heap.size w w' := by
  have h5 : (c.st == 4000) = false := by simpa using h4
  have HRO : Hid (∀ W, Calls Tryd.prog 75 #[.agg #[.int .i64 c.id, .int .i64 (c.st + 1), .int .i64 k, .int .i64 l, .string nm]] W fun e w' => e = .returned (.bool false) ∧ Below W.heap.size W w') := fun W => by
    have h := implRequestOK_any c.id (c.st + 1) k l nm W hn
    rw [hr] at h
    exact h
  clear h4 hr hn
  have HX : Hid (∀ W, Below (w.alloc (.cells #[.int .i64 c.id, .int .i64 c.st, .bool c.bu, .int .i64 c.rc, .int .i64 c.rs, .int .i64 c.rk, .int .i64 c.rl, .string c.rn, .slice ar nr kr, .slice aa na ka] 71)).heap.size (w.alloc (.cells #[.int .i64 c.id, .int .i64 c.st, .bool c.bu, .int .i64 c.rc, .int .i64 c.rs, .int .i64 c.rk, .int .i64 c.rl, .string c.rn, .slice ar nr kr, .slice aa na ka] 71)) W → (W.cell? ⟨w.heap.size, 0, none⟩ = some (.int .i64 c.id) ∧ W.cell? ⟨w.heap.size, 1, none⟩ = some (.int .i64 c.st) ∧ W.cell? ⟨w.heap.size, 2, none⟩ = some (.bool c.bu) ∧ W.cell? ⟨w.heap.size, 3, none⟩ = some (.int .i64 c.rc) ∧ W.cell? ⟨w.heap.size, 4, none⟩ = some (.int .i64 c.rs) ∧ W.cell? ⟨w.heap.size, 5, none⟩ = some (.int .i64 c.rk) ∧ W.cell? ⟨w.heap.size, 6, none⟩ = some (.int .i64 c.rl) ∧ W.cell? ⟨w.heap.size, 7, none⟩ = some (.string c.rn) ∧ W.cell? ⟨w.heap.size, 8, none⟩ = some (.slice ar nr kr) ∧ W.cell? ⟨w.heap.size, 9, none⟩ = some (.slice aa na ka)) ∧ Below w.heap.size w W) := fun W hW => by
    have h1 := (hW.block w.heap.size (by simp)).trans (heap_alloc_new w _)
    exact ⟨⟨(Rg.blk_cell h1 0 rfl).1, (Rg.blk_cell h1 1 rfl).1, (Rg.blk_cell h1 2 rfl).1, (Rg.blk_cell h1 3 rfl).1, (Rg.blk_cell h1 4 rfl).1, (Rg.blk_cell h1 5 rfl).1, (Rg.blk_cell h1 6 rfl).1, (Rg.blk_cell h1 7 rfl).1, (Rg.blk_cell h1 8 rfl).1, (Rg.blk_cell h1 9 rfl).1⟩, (bel_new w _).trans (hW.mono (by simp))⟩
  unfold clV
  go_enter Tryd.func88, Tryd.ntmps88
  go_upto_region 1 with fail
  generalize w.alloc (.cells #[.int .i64 c.id, .int .i64 c.st, .bool c.bu, .int .i64 c.rc, .int .i64 c.rs, .int .i64 c.rk, .int .i64 c.rl, .string c.rn, .slice ar nr kr, .slice aa na ka] 71) = wb at HX ⊢
  obtain ⟨⟨c0, c1, c2, c3, c4, c5, c6, c7, c8, c9⟩, g0⟩ := HX.out wb (Below.refl _ _)
  have AF : (wb.alloc (.cells #[.int .i64 c.id, .int .i64 (c.st + 1), .int .i64 k, .int .i64 l, .string nm] 24)).heap[wb.heap.size]? = some (.cells #[.int .i64 c.id, .int .i64 (c.st + 1), .int .i64 k, .int .i64 l, .string nm] 24 (0, 0)) := (heap_alloc_new wb _)
  have BF : Below wb.heap.size wb (wb.alloc (.cells #[.int .i64 c.id, .int .i64 (c.st + 1), .int .i64 k, .int .i64 l, .string nm] 24)) := ((Below.refl wb.heap.size wb).alloc (Nat.le_refl _) _)
  have HQ : Hid (∀ W, Below (wb.alloc (.cells #[.int .i64 c.id, .int .i64 (c.st + 1), .int .i64 k, .int .i64 l, .string nm] 24)).heap.size (wb.alloc (.cells #[.int .i64 c.id, .int .i64 (c.st + 1), .int .i64 k, .int .i64 l, .string nm] 24)) W → (W.cell? ⟨wb.heap.size, 0, none⟩ = some (.int .i64 c.id) ∧ W.cell? ⟨wb.heap.size, 1, none⟩ = some (.int .i64 (c.st + 1)) ∧ W.cell? ⟨wb.heap.size, 2, none⟩ = some (.int .i64 k) ∧ W.cell? ⟨wb.heap.size, 3, none⟩ = some (.int .i64 l) ∧ W.cell? ⟨wb.heap.size, 4, none⟩ = some (.string nm)) ∧ (W.cell? ⟨w.heap.size, 0, none⟩ = some (.int .i64 c.id) ∧ W.cell? ⟨w.heap.size, 1, none⟩ = some (.int .i64 c.st) ∧ W.cell? ⟨w.heap.size, 2, none⟩ = some (.bool c.bu) ∧ W.cell? ⟨w.heap.size, 3, none⟩ = some (.int .i64 c.rc) ∧ W.cell? ⟨w.heap.size, 4, none⟩ = some (.int .i64 c.rs) ∧ W.cell? ⟨w.heap.size, 5, none⟩ = some (.int .i64 c.rk) ∧ W.cell? ⟨w.heap.size, 6, none⟩ = some (.int .i64 c.rl) ∧ W.cell? ⟨w.heap.size, 7, none⟩ = some (.string c.rn) ∧ W.cell? ⟨w.heap.size, 8, none⟩ = some (.slice ar nr kr) ∧ W.cell? ⟨w.heap.size, 9, none⟩ = some (.slice aa na ka)) ∧ Below w.heap.size w W) := fun W hW => by
    have h1 := (hW.block wb.heap.size (Array.getElem?_eq_some_iff.1 AF).1).trans AF
    have h2 := HX.out W (BF.trans (hW.mono BF.size))
    exact ⟨⟨(Rg.blk_cell h1 0 rfl).1, (Rg.blk_cell h1 1 rfl).1, (Rg.blk_cell h1 2 rfl).1, (Rg.blk_cell h1 3 rfl).1, (Rg.blk_cell h1 4 rfl).1⟩, h2.1, h2.2⟩
  clear g0 AF BF HX
  go_upto_region 4 with fail
  generalize (wb.alloc (.cells #[.int .i64 c.id, .int .i64 (c.st + 1), .int .i64 k, .int .i64 l, .string nm] 24)) = wc at HQ ⊢
  generalize wb.heap.size = p at HQ ⊢
  clear c0 c1 c2 c3 c4 c5 c6 c7 c8 c9
  obtain ⟨⟨r0, r1, r2, r3, r4⟩, ⟨c0, c1, c2, c3, c4, c5, c6, c7, c8, c9⟩, g4⟩ := HQ.out wc (Below.refl _ _)
  clear g4
  go_wp2_with fail
  refine (HRO.out _).mono ?_
  rintro e w5 ⟨rfl, b5⟩
  clear c0 c1 c2 c3 c4 c5 c6 c7 c8 c9 r0 r1 r2 r3 r4 HRO
  obtain ⟨⟨r0, r1, r2, r3, r4⟩, ⟨c0, c1, c2, c3, c4, c5, c6, c7, c8, c9⟩, g5⟩ := HQ.out w5 b5
  clear HQ b5
  go_wp2_with fail
  exact bodyPost_ret (v := .tuple #[.iface 71 (.agg #[.int .i64 c.id, .int .i64 c.st, .bool c.bu, .int .i64 c.rc, .int .i64 c.rs, .int .i64 c.rk, .int .i64 c.rl, .string c.rn, .slice ar nr kr, .slice aa na ka]), .int .i64 3]) (by simp [results, Tryd.results88, go_sem]) rfl ⟨rfl, g5⟩
set_option maxRecDepth 100000 in
set_option maxHeartbeats 1600000 in
theorem restG_any (c : Cd) (ar aa : Option Addr) (nr kr na ka : Nat) (k l : Int) (nm : ByteArray) (w : World) (h4 : ¬ c.st = 4000) (hs0 : 0 ≤ c.st) (hs1 : c.st ≤ 65535) (hn : nm.size ≤ maxLen) (hr : reqB c.id (c.st + 1) k l nm = true) :
    Calls Tryd.prog 88 #[clV c (.slice ar nr kr) (.slice aa na ka), .int .i64 k, .string nm, .int .i64 l] w fun e w' => e = .returned (.tuple #[.iface 70 (clV (cal c k l nm) (.slice none 0 0) (.slice aa na ka)), .int .i64 0]) ∧ Below w.heap.size w w' := by
  have h5 : (c.st == 4000) = false := by simpa using h4
  have HRO : Hid (∀ W, Calls Tryd.prog 75 #[.agg #[.int .i64 c.id, .int .i64 (c.st + 1), .int .i64 k, .int .i64 l, .string nm]] W fun e w' => e = .returned (.bool true) ∧ Below W.heap.size W w') := fun W => by
    have h := implRequestOK_any c.id (c.st + 1) k l nm W hn
    rw [hr] at h
    exact h
  clear h4 hr hn
  have HX : Hid (∀ W, Below (w.alloc (.cells #[.int .i64 c.id, .int .i64 c.st, .bool c.bu, .int .i64 c.rc, .int .i64 c.rs, .int .i64 c.rk, .int .i64 c.rl, .string c.rn, .slice ar nr kr, .slice aa na ka] 71)).heap.size (w.alloc (.cells #[.int .i64 c.id, .int .i64 c.st, .bool c.bu, .int .i64 c.rc, .int .i64 c.rs, .int .i64 c.rk, .int .i64 c.rl, .string c.rn, .slice ar nr kr, .slice aa na ka] 71)) W → (W.cell? ⟨w.heap.size, 0, none⟩ = some (.int .i64 c.id) ∧ W.cell? ⟨w.heap.size, 1, none⟩ = some (.int .i64 c.st) ∧ W.cell? ⟨w.heap.size, 2, none⟩ = some (.bool c.bu) ∧ W.cell? ⟨w.heap.size, 3, none⟩ = some (.int .i64 c.rc) ∧ W.cell? ⟨w.heap.size, 4, none⟩ = some (.int .i64 c.rs) ∧ W.cell? ⟨w.heap.size, 5, none⟩ = some (.int .i64 c.rk) ∧ W.cell? ⟨w.heap.size, 6, none⟩ = some (.int .i64 c.rl) ∧ W.cell? ⟨w.heap.size, 7, none⟩ = some (.string c.rn) ∧ W.cell? ⟨w.heap.size, 8, none⟩ = some (.slice ar nr kr) ∧ W.cell? ⟨w.heap.size, 9, none⟩ = some (.slice aa na ka)) ∧ Below w.heap.size w W) := fun W hW => by
    have h1 := (hW.block w.heap.size (by simp)).trans (heap_alloc_new w _)
    exact ⟨⟨(Rg.blk_cell h1 0 rfl).1, (Rg.blk_cell h1 1 rfl).1, (Rg.blk_cell h1 2 rfl).1, (Rg.blk_cell h1 3 rfl).1, (Rg.blk_cell h1 4 rfl).1, (Rg.blk_cell h1 5 rfl).1, (Rg.blk_cell h1 6 rfl).1, (Rg.blk_cell h1 7 rfl).1, (Rg.blk_cell h1 8 rfl).1, (Rg.blk_cell h1 9 rfl).1⟩, (bel_new w _).trans (hW.mono (by simp))⟩
  unfold clV cal
  go_enter Tryd.func88, Tryd.ntmps88
  go_upto_region 1 with fail
  generalize w.alloc (.cells #[.int .i64 c.id, .int .i64 c.st, .bool c.bu, .int .i64 c.rc, .int .i64 c.rs, .int .i64 c.rk, .int .i64 c.rl, .string c.rn, .slice ar nr kr, .slice aa na ka] 71) = wb at HX ⊢
  obtain ⟨⟨c0, c1, c2, c3, c4, c5, c6, c7, c8, c9⟩, g0⟩ := HX.out wb (Below.refl _ _)
  have AF : (wb.alloc (.cells #[.int .i64 c.id, .int .i64 (c.st + 1), .int .i64 k, .int .i64 l, .string nm] 24)).heap[wb.heap.size]? = some (.cells #[.int .i64 c.id, .int .i64 (c.st + 1), .int .i64 k, .int .i64 l, .string nm] 24 (0, 0)) := (heap_alloc_new wb _)
  have BF : Below wb.heap.size wb (wb.alloc (.cells #[.int .i64 c.id, .int .i64 (c.st + 1), .int .i64 k, .int .i64 l, .string nm] 24)) := ((Below.refl wb.heap.size wb).alloc (Nat.le_refl _) _)
  have HQ : Hid (∀ W, Below (wb.alloc (.cells #[.int .i64 c.id, .int .i64 (c.st + 1), .int .i64 k, .int .i64 l, .string nm] 24)).heap.size (wb.alloc (.cells #[.int .i64 c.id, .int .i64 (c.st + 1), .int .i64 k, .int .i64 l, .string nm] 24)) W → (W.cell? ⟨wb.heap.size, 0, none⟩ = some (.int .i64 c.id) ∧ W.cell? ⟨wb.heap.size, 1, none⟩ = some (.int .i64 (c.st + 1)) ∧ W.cell? ⟨wb.heap.size, 2, none⟩ = some (.int .i64 k) ∧ W.cell? ⟨wb.heap.size, 3, none⟩ = some (.int .i64 l) ∧ W.cell? ⟨wb.heap.size, 4, none⟩ = some (.string nm)) ∧ (W.cell? ⟨w.heap.size, 0, none⟩ = some (.int .i64 c.id) ∧ W.cell? ⟨w.heap.size, 1, none⟩ = some (.int .i64 c.st) ∧ W.cell? ⟨w.heap.size, 2, none⟩ = some (.bool c.bu) ∧ W.cell? ⟨w.heap.size, 3, none⟩ = some (.int .i64 c.rc) ∧ W.cell? ⟨w.heap.size, 4, none⟩ = some (.int .i64 c.rs) ∧ W.cell? ⟨w.heap.size, 5, none⟩ = some (.int .i64 c.rk) ∧ W.cell? ⟨w.heap.size, 6, none⟩ = some (.int .i64 c.rl) ∧ W.cell? ⟨w.heap.size, 7, none⟩ = some (.string c.rn) ∧ W.cell? ⟨w.heap.size, 8, none⟩ = some (.slice ar nr kr) ∧ W.cell? ⟨w.heap.size, 9, none⟩ = some (.slice aa na ka)) ∧ Below w.heap.size w W) := fun W hW => by
    have h1 := (hW.block wb.heap.size (Array.getElem?_eq_some_iff.1 AF).1).trans AF
    have h2 := HX.out W (BF.trans (hW.mono BF.size))
    exact ⟨⟨(Rg.blk_cell h1 0 rfl).1, (Rg.blk_cell h1 1 rfl).1, (Rg.blk_cell h1 2 rfl).1, (Rg.blk_cell h1 3 rfl).1, (Rg.blk_cell h1 4 rfl).1⟩, h2.1, h2.2⟩
  clear g0 AF BF HX
  go_upto_region 4 with fail
  generalize (wb.alloc (.cells #[.int .i64 c.id, .int .i64 (c.st + 1), .int .i64 k, .int .i64 l, .string nm] 24)) = wc at HQ ⊢
  generalize wb.heap.size = p at HQ ⊢
  clear c0 c1 c2 c3 c4 c5 c6 c7 c8 c9
  obtain ⟨⟨r0, r1, r2, r3, r4⟩, ⟨c0, c1, c2, c3, c4, c5, c6, c7, c8, c9⟩, g4⟩ := HQ.out wc (Below.refl _ _)
  clear g4
  go_wp2_with fail
  refine (HRO.out _).mono ?_
  rintro e w5 ⟨rfl, b5⟩
  clear c0 c1 c2 c3 c4 c5 c6 c7 c8 c9 r0 r1 r2 r3 r4 HRO
  obtain ⟨⟨r0, r1, r2, r3, r4⟩, ⟨c0, c1, c2, c3, c4, c5, c6, c7, c8, c9⟩, g5⟩ := HQ.out w5 b5
  clear HQ b5
  go_wp2_with fail
  exact bodyPost_ret (v := .tuple #[.iface 70 (.agg #[.int .i64 c.id, .int .i64 (c.st + 1), .bool true, .int .i64 c.id, .int .i64 (c.st + 1), .int .i64 k, .int .i64 l, .string nm, .slice none 0 0, .slice aa na ka]), .int .i64 0]) (by simp [results, Tryd.results88, go_sem]) rfl ⟨rfl, g5⟩
theorem mCalledW (v : Value) (w : World) : (Go.method 239 70 v "loop.example/g00292/impl.called").run Tryd.prog w = .ok (66, v) w := by kernel_rfl
theorem mCalledR (v : Value) (w : World) : (Go.method 239 71 v "loop.example/g00292/impl.called").run Tryd.prog w = .ok (88, v) w := by kernel_rfl
set_option maxRecDepth 100000 in
set_option maxHeartbeats 1600000 in
theorem implClientCall_any (n : Int) (c : Cd) (vr va : Value) (k l : Int) (nm : ByteArray) (w : World) (h : Has w c vr va) (hz : Tc 1048576 c) (hn : nm.size ≤ maxLen) (hK : KTab w) (hp : 0 < w.heap.size) :
    Calls Tryd.prog 7 #[.int .i64 n, clV c vr va, .int .i64 k, .string nm, .int .i64 l] w fun e w' => ∃ vr' va', e = .returned (.tuple #[clV (caR n c k l nm) vr' va', .int .i64 (caC n c k l nm)]) ∧ Hid (Mine w' w.heap.size (caR n c k l nm) vr' va') ∧ Below w.heap.size w w' := by
  have HR : Hid (∀ W, Below w.heap.size w W → Has W c vr va ∧ KTab W ∧ 0 < W.heap.size) := fun W hW => ⟨h.below hW, hK.below hW hp, Nat.lt_of_lt_of_le hp hW.size⟩
  have HZ : Hid (Tc 1048576 c ∧ nm.size ≤ maxLen) := ⟨hz, hn⟩
  obtain ⟨ar, kr, rfl⟩ := RowG.slice h.1
  obtain ⟨aa, ka, rfl⟩ := RowG.slice h.2
  clear h hz hK hp hn
  have HX : Hid (∀ W, Below ((w.alloc (.cells #[.int .i64 c.id, .int .i64 c.st, .bool c.bu, .int .i64 c.rc, .int .i64 c.rs, .int .i64 c.rk, .int .i64 c.rl, .string c.rn, .slice ar c.re.length kr, .slice aa c.ac.length ka] 28)).alloc (.cells #[.int .i64 0, .int .i64 0, .bool false, .int .i64 0, .int .i64 0, .int .i64 0, .int .i64 0, .string ⟨#[]⟩, .slice none 0 0, .slice none 0 0] 28)).heap.size ((w.alloc (.cells #[.int .i64 c.id, .int .i64 c.st, .bool c.bu, .int .i64 c.rc, .int .i64 c.rs, .int .i64 c.rk, .int .i64 c.rl, .string c.rn, .slice ar c.re.length kr, .slice aa c.ac.length ka] 28)).alloc (.cells #[.int .i64 0, .int .i64 0, .bool false, .int .i64 0, .int .i64 0, .int .i64 0, .int .i64 0, .string ⟨#[]⟩, .slice none 0 0, .slice none 0 0] 28)) W → (W.heap[w.heap.size]? = some (.cells #[.int .i64 c.id, .int .i64 c.st, .bool c.bu, .int .i64 c.rc, .int .i64 c.rs, .int .i64 c.rk, .int .i64 c.rl, .string c.rn, .slice ar c.re.length kr, .slice aa c.ac.length ka] 28 (0, 0)) ∧ W.heap[w.heap.size + 1]? = some (.cells #[.int .i64 0, .int .i64 0, .bool false, .int .i64 0, .int .i64 0, .int .i64 0, .int .i64 0, .string ⟨#[]⟩, .slice none 0 0, .slice none 0 0] 28 (0, 0))) ∧ Below w.heap.size w W) := fun W hW => by
    obtain ⟨h1, h2, h3⟩ := Gy.two hW
    exact ⟨⟨h1, h2⟩, h3⟩
  have HOK : Hid (∀ W, Below w.heap.size w W → Calls Tryd.prog 11 #[.int .i64 n, .agg #[.int .i64 c.id, .int .i64 c.st, .bool c.bu, .int .i64 c.rc, .int .i64 c.rs, .int .i64 c.rk, .int .i64 c.rl, .string c.rn, .slice ar c.re.length kr, .slice aa c.ac.length ka]] W fun e w' => e = .returned (.bool (okB n c)) ∧ Below W.heap.size W w') := fun W hW => implClientOK_any n c _ _ W (HR.out W hW).1 HZ.out.1 (HR.out W hW).2.1 (HR.out W hW).2.2
  have HCO : Hid (∀ W, Below w.heap.size w W → Calls Tryd.prog 16 #[.agg #[.int .i64 c.id, .int .i64 c.st, .bool c.bu, .int .i64 c.rc, .int .i64 c.rs, .int .i64 c.rk, .int .i64 c.rl, .string c.rn, .slice ar c.re.length kr, .slice aa c.ac.length ka]] W fun e w' => ∃ vr' va', e = .returned (clV c vr' va') ∧ Hid (Mine w' W.heap.size c vr' va') ∧ Below W.heap.size W w') := fun W hW => copyClient_any c _ _ W (HR.out W hW).1 HZ.out.1.2.1 HZ.out.1.2.2.1
  have m1 := mClientW
  have m2 := mClientR
  have m3 := mCalledW
  have m4 := mCalledR
  by_cases hlong : 65536 < nm.size
  · have HV : Hid (caR n c k l nm = zC ∧ caC n c k l nm = 2) := ca_long hlong
    have hl2 : (65536 : Int) < (nm.size : Int) := by omega
    clear hlong HCO HOK
    unfold clV
    go_enter Tryd.func7, Tryd.ntmps7
    go_upto_region 1 with fail
    generalize ((w.alloc (.cells #[.int .i64 c.id, .int .i64 c.st, .bool c.bu, .int .i64 c.rc, .int .i64 c.rs, .int .i64 c.rk, .int .i64 c.rl, .string c.rn, .slice ar c.re.length kr, .slice aa c.ac.length ka] 28)).alloc (.cells #[.int .i64 0, .int .i64 0, .bool false, .int .i64 0, .int .i64 0, .int .i64 0, .int .i64 0, .string ⟨#[]⟩, .slice none 0 0, .slice none 0 0] 28)) = wb at HX ⊢
    have B0 : Hid (Below wb.heap.size wb wb) := Below.refl _ _
    have Z9 := HX.out wb (B0.out)
    obtain ⟨z0, fz0⟩ := Rg.blk_cell Z9.1.2 0 (x := .int .i64 0) rfl
    obtain ⟨z1, fz1⟩ := Rg.blk_cell Z9.1.2 1 (x := .int .i64 0) rfl
    obtain ⟨z2, fz2⟩ := Rg.blk_cell Z9.1.2 2 (x := .bool false) rfl
    obtain ⟨z3, fz3⟩ := Rg.blk_cell Z9.1.2 3 (x := .int .i64 0) rfl
    obtain ⟨z4, fz4⟩ := Rg.blk_cell Z9.1.2 4 (x := .int .i64 0) rfl
    obtain ⟨z5, fz5⟩ := Rg.blk_cell Z9.1.2 5 (x := .int .i64 0) rfl
    obtain ⟨z6, fz6⟩ := Rg.blk_cell Z9.1.2 6 (x := .int .i64 0) rfl
    obtain ⟨z7, fz7⟩ := Rg.blk_cell Z9.1.2 7 (x := .string ⟨#[]⟩) rfl
    obtain ⟨z8, fz8⟩ := Rg.blk_cell Z9.1.2 8 (x := .slice none 0 0) rfl
    obtain ⟨z9, fz9⟩ := Rg.blk_cell Z9.1.2 9 (x := .slice none 0 0) rfl
    obtain ⟨AF, HFB, GF0⟩ := set10 (.int .i64 0) (.int .i64 0) (.bool false) (.int .i64 0) (.int .i64 0) (.int .i64 0) (.int .i64 0) (.string ⟨#[]⟩) (.slice none 0 0) (.slice none 0 0) (.int .i64 0) (.int .i64 0) (.bool false) (.int .i64 0) (.int .i64 0) (.int .i64 0) (.int .i64 0) (.string ⟨#[]⟩) (.slice none 0 0) (.slice none 0 0) Z9.1.2
    have GF := GF0 (Z9.2) (Nat.le_succ _)
    have KF : Hid (Mine ((((((((((wb.setCell ⟨w.heap.size + 1, 0, none⟩ (.int .i64 0)).setCell ⟨w.heap.size + 1, 1, none⟩ (.int .i64 0)).setCell ⟨w.heap.size + 1, 2, none⟩ (.bool false)).setCell ⟨w.heap.size + 1, 3, none⟩ (.int .i64 0)).setCell ⟨w.heap.size + 1, 4, none⟩ (.int .i64 0)).setCell ⟨w.heap.size + 1, 5, none⟩ (.int .i64 0)).setCell ⟨w.heap.size + 1, 6, none⟩ (.int .i64 0)).setCell ⟨w.heap.size + 1, 7, none⟩ (.string ⟨#[]⟩)).setCell ⟨w.heap.size + 1, 8, none⟩ (.slice none 0 0)).setCell ⟨w.heap.size + 1, 9, none⟩ (.slice none 0 0)) w.heap.size zC (.slice none 0 0) (.slice none 0 0)) := ⟨Rr11.OwnR.nil _ _, Ox.OwnX.nil _ _⟩
    clear GF0 HFB Z9
    go_wp2_with fail
    generalize ((((((((((wb.setCell ⟨w.heap.size + 1, 0, none⟩ (.int .i64 0)).setCell ⟨w.heap.size + 1, 1, none⟩ (.int .i64 0)).setCell ⟨w.heap.size + 1, 2, none⟩ (.bool false)).setCell ⟨w.heap.size + 1, 3, none⟩ (.int .i64 0)).setCell ⟨w.heap.size + 1, 4, none⟩ (.int .i64 0)).setCell ⟨w.heap.size + 1, 5, none⟩ (.int .i64 0)).setCell ⟨w.heap.size + 1, 6, none⟩ (.int .i64 0)).setCell ⟨w.heap.size + 1, 7, none⟩ (.string ⟨#[]⟩)).setCell ⟨w.heap.size + 1, 8, none⟩ (.slice none 0 0)).setCell ⟨w.heap.size + 1, 9, none⟩ (.slice none 0 0)) = wf at AF GF KF ⊢
    have d0 := (Rg.blk_cell AF 0 (x := .int .i64 0) rfl).1
    have d1 := (Rg.blk_cell AF 1 (x := .int .i64 0) rfl).1
    have d2 := (Rg.blk_cell AF 2 (x := .bool false) rfl).1
    have d3 := (Rg.blk_cell AF 3 (x := .int .i64 0) rfl).1
    have d4 := (Rg.blk_cell AF 4 (x := .int .i64 0) rfl).1
    have d5 := (Rg.blk_cell AF 5 (x := .int .i64 0) rfl).1
    have d6 := (Rg.blk_cell AF 6 (x := .int .i64 0) rfl).1
    have d7 := (Rg.blk_cell AF 7 (x := .string ⟨#[]⟩) rfl).1
    have d8 := (Rg.blk_cell AF 8 (x := .slice none 0 0) rfl).1
    have d9 := (Rg.blk_cell AF 9 (x := .slice none 0 0) rfl).1
    exact bodyPost_ret (v := .tuple #[.agg #[.int .i64 0, .int .i64 0, .bool false, .int .i64 0, .int .i64 0, .int .i64 0, .int .i64 0, .string ⟨#[]⟩, .slice none 0 0, .slice none 0 0], .int .i64 2]) (by simp [results, Tryd.results7, go_sem, d0, d1, d2, d3, d4, d5, d6, d7, d8, d9]) rfl ⟨_, _, ret_tup (by rw [HV.out.1] <;> rfl) HV.out.2.symm, by rw [HV.out.1]; exact KF, GF⟩
  have hl2 : ¬ (65536 : Int) < (nm.size : Int) := by omega
  have HLG : Hid (¬ 65536 < nm.size) := hlong
  clear hlong
  unfold clV
  go_enter Tryd.func7, Tryd.ntmps7
  go_upto_region 1 with fail
  generalize ((w.alloc (.cells #[.int .i64 c.id, .int .i64 c.st, .bool c.bu, .int .i64 c.rc, .int .i64 c.rs, .int .i64 c.rk, .int .i64 c.rl, .string c.rn, .slice ar c.re.length kr, .slice aa c.ac.length ka] 28)).alloc (.cells #[.int .i64 0, .int .i64 0, .bool false, .int .i64 0, .int .i64 0, .int .i64 0, .int .i64 0, .string ⟨#[]⟩, .slice none 0 0, .slice none 0 0] 28)) = wb at HX ⊢
  have X0 := HX.out wb (Below.refl _ _)
  have c0 := (Rg.blk_cell X0.1.1 0 (x := .int .i64 c.id) rfl).1
  have c1 := (Rg.blk_cell X0.1.1 1 (x := .int .i64 c.st) rfl).1
  have c2 := (Rg.blk_cell X0.1.1 2 (x := .bool c.bu) rfl).1
  have c3 := (Rg.blk_cell X0.1.1 3 (x := .int .i64 c.rc) rfl).1
  have c4 := (Rg.blk_cell X0.1.1 4 (x := .int .i64 c.rs) rfl).1
  have c5 := (Rg.blk_cell X0.1.1 5 (x := .int .i64 c.rk) rfl).1
  have c6 := (Rg.blk_cell X0.1.1 6 (x := .int .i64 c.rl) rfl).1
  have c7 := (Rg.blk_cell X0.1.1 7 (x := .string c.rn) rfl).1
  have c8 := (Rg.blk_cell X0.1.1 8 (x := .slice ar c.re.length kr) rfl).1
  have c9 := (Rg.blk_cell X0.1.1 9 (x := .slice aa c.ac.length ka) rfl).1
  have HK := HOK.out wb X0.2
  clear X0 HOK
  go_wp2_with fail
  refine HK.mono ?_
  rintro e w2 ⟨rfl, b2⟩
  have B2 : Hid (Below wb.heap.size wb w2) := b2
  clear b2 HK hl2 c0 c1 c2 c3 c4 c5 c6 c7 c8 c9
  cases hok : okB n c with
  | false =>
    have HV : Hid (caR n c k l nm = zC ∧ caC n c k l nm = 1) := ca_bad HLG.out hok
    clear hok HCO
    have Z9 := HX.out w2 (B2.out)
    obtain ⟨z0, fz0⟩ := Rg.blk_cell Z9.1.2 0 (x := .int .i64 0) rfl
    obtain ⟨z1, fz1⟩ := Rg.blk_cell Z9.1.2 1 (x := .int .i64 0) rfl
    obtain ⟨z2, fz2⟩ := Rg.blk_cell Z9.1.2 2 (x := .bool false) rfl
    obtain ⟨z3, fz3⟩ := Rg.blk_cell Z9.1.2 3 (x := .int .i64 0) rfl
    obtain ⟨z4, fz4⟩ := Rg.blk_cell Z9.1.2 4 (x := .int .i64 0) rfl
    obtain ⟨z5, fz5⟩ := Rg.blk_cell Z9.1.2 5 (x := .int .i64 0) rfl
    obtain ⟨z6, fz6⟩ := Rg.blk_cell Z9.1.2 6 (x := .int .i64 0) rfl
    obtain ⟨z7, fz7⟩ := Rg.blk_cell Z9.1.2 7 (x := .string ⟨#[]⟩) rfl
    obtain ⟨z8, fz8⟩ := Rg.blk_cell Z9.1.2 8 (x := .slice none 0 0) rfl
    obtain ⟨z9, fz9⟩ := Rg.blk_cell Z9.1.2 9 (x := .slice none 0 0) rfl
    obtain ⟨AF, HFB, GF0⟩ := set10 (.int .i64 0) (.int .i64 0) (.bool false) (.int .i64 0) (.int .i64 0) (.int .i64 0) (.int .i64 0) (.string ⟨#[]⟩) (.slice none 0 0) (.slice none 0 0) (.int .i64 0) (.int .i64 0) (.bool false) (.int .i64 0) (.int .i64 0) (.int .i64 0) (.int .i64 0) (.string ⟨#[]⟩) (.slice none 0 0) (.slice none 0 0) Z9.1.2
    have GF := GF0 (Z9.2) (Nat.le_succ _)
    have KF : Hid (Mine ((((((((((w2.setCell ⟨w.heap.size + 1, 0, none⟩ (.int .i64 0)).setCell ⟨w.heap.size + 1, 1, none⟩ (.int .i64 0)).setCell ⟨w.heap.size + 1, 2, none⟩ (.bool false)).setCell ⟨w.heap.size + 1, 3, none⟩ (.int .i64 0)).setCell ⟨w.heap.size + 1, 4, none⟩ (.int .i64 0)).setCell ⟨w.heap.size + 1, 5, none⟩ (.int .i64 0)).setCell ⟨w.heap.size + 1, 6, none⟩ (.int .i64 0)).setCell ⟨w.heap.size + 1, 7, none⟩ (.string ⟨#[]⟩)).setCell ⟨w.heap.size + 1, 8, none⟩ (.slice none 0 0)).setCell ⟨w.heap.size + 1, 9, none⟩ (.slice none 0 0)) w.heap.size zC (.slice none 0 0) (.slice none 0 0)) := ⟨Rr11.OwnR.nil _ _, Ox.OwnX.nil _ _⟩
    clear GF0 HFB Z9
    go_wp2_with fail
    generalize ((((((((((w2.setCell ⟨w.heap.size + 1, 0, none⟩ (.int .i64 0)).setCell ⟨w.heap.size + 1, 1, none⟩ (.int .i64 0)).setCell ⟨w.heap.size + 1, 2, none⟩ (.bool false)).setCell ⟨w.heap.size + 1, 3, none⟩ (.int .i64 0)).setCell ⟨w.heap.size + 1, 4, none⟩ (.int .i64 0)).setCell ⟨w.heap.size + 1, 5, none⟩ (.int .i64 0)).setCell ⟨w.heap.size + 1, 6, none⟩ (.int .i64 0)).setCell ⟨w.heap.size + 1, 7, none⟩ (.string ⟨#[]⟩)).setCell ⟨w.heap.size + 1, 8, none⟩ (.slice none 0 0)).setCell ⟨w.heap.size + 1, 9, none⟩ (.slice none 0 0)) = wf at AF GF KF ⊢
    have d0 := (Rg.blk_cell AF 0 (x := .int .i64 0) rfl).1
    have d1 := (Rg.blk_cell AF 1 (x := .int .i64 0) rfl).1
    have d2 := (Rg.blk_cell AF 2 (x := .bool false) rfl).1
    have d3 := (Rg.blk_cell AF 3 (x := .int .i64 0) rfl).1
    have d4 := (Rg.blk_cell AF 4 (x := .int .i64 0) rfl).1
    have d5 := (Rg.blk_cell AF 5 (x := .int .i64 0) rfl).1
    have d6 := (Rg.blk_cell AF 6 (x := .int .i64 0) rfl).1
    have d7 := (Rg.blk_cell AF 7 (x := .string ⟨#[]⟩) rfl).1
    have d8 := (Rg.blk_cell AF 8 (x := .slice none 0 0) rfl).1
    have d9 := (Rg.blk_cell AF 9 (x := .slice none 0 0) rfl).1
    exact bodyPost_ret (v := .tuple #[.agg #[.int .i64 0, .int .i64 0, .bool false, .int .i64 0, .int .i64 0, .int .i64 0, .int .i64 0, .string ⟨#[]⟩, .slice none 0 0, .slice none 0 0], .int .i64 1]) (by simp [results, Tryd.results7, go_sem, d0, d1, d2, d3, d4, d5, d6, d7, d8, d9]) rfl ⟨_, _, ret_tup (by rw [HV.out.1] <;> rfl) HV.out.2.symm, by rw [HV.out.1]; exact KF, GF⟩
  | true =>
  have HOKT : Hid (okB n c = true) := hok
  clear hok
  have X2 := HX.out w2 B2.out
  have c0 := (Rg.blk_cell X2.1.1 0 (x := .int .i64 c.id) rfl).1
  have c1 := (Rg.blk_cell X2.1.1 1 (x := .int .i64 c.st) rfl).1
  have c2 := (Rg.blk_cell X2.1.1 2 (x := .bool c.bu) rfl).1
  have c3 := (Rg.blk_cell X2.1.1 3 (x := .int .i64 c.rc) rfl).1
  have c4 := (Rg.blk_cell X2.1.1 4 (x := .int .i64 c.rs) rfl).1
  have c5 := (Rg.blk_cell X2.1.1 5 (x := .int .i64 c.rk) rfl).1
  have c6 := (Rg.blk_cell X2.1.1 6 (x := .int .i64 c.rl) rfl).1
  have c7 := (Rg.blk_cell X2.1.1 7 (x := .string c.rn) rfl).1
  have c8 := (Rg.blk_cell X2.1.1 8 (x := .slice ar c.re.length kr) rfl).1
  have c9 := (Rg.blk_cell X2.1.1 9 (x := .slice aa c.ac.length ka) rfl).1
  have HK := HCO.out w2 X2.2
  have HS2 : Hid (w.heap.size + 1 + 1 ≤ w2.heap.size) := (Array.getElem?_eq_some_iff.1 X2.1.2).1
  clear X2 HCO
  go_wp2_with fail
  refine HK.mono ?_
  rintro e w3 ⟨vr', va', rfl, HM3, b3⟩
  have B3 : Hid (Below wb.heap.size wb w3) := B2.out.trans (b3.mono B2.out.size)
  clear b3 HK c0 c1 c2 c3 c4 c5 c6 c7 c8 c9
  obtain ⟨a1, k1, rfl⟩ := HM3.out.1.slice
  obtain ⟨a2, k2, rfl⟩ := HM3.out.2.slice
  have HK := stateOf_any c _ _ w3 HM3.out.has
  unfold clV at HK ⊢
  go_wp2_with fail
  refine HK.mono ?_
  rintro e w4 ⟨rfl, b4⟩
  have B4 : Hid (Below wb.heap.size wb w4) := B3.out.trans (b4.mono B3.out.size)
  have HM4 : Hid (Mine w4 w2.heap.size c (.slice a1 c.re.length k1) (.slice a2 c.ac.length k2)) := HM3.out.below b4
  clear b4 HK HM3
  by_cases hb : c.bu = true
  · have HV : Hid (caR n c k l nm = c ∧ caC n c k l nm = 15) := ca_wait HLG.out HOKT.out hb
    rw [st_wait hb]
    clear hb
    have HK := waitC_any c a1 a2 c.re.length k1 c.ac.length k2 k l nm w4
    unfold clV at HK
    unfold clV
    go_wp2_with fail
    refine HK.mono ?_
    rintro e w6 ⟨rfl, b6⟩
    have B6 : Hid (Below wb.heap.size wb w6) := B4.out.trans (b6.mono B4.out.size)
    have HM6 : Hid (Mine w6 w2.heap.size c (.slice a1 c.re.length k1) (.slice a2 c.ac.length k2)) := HM4.out.below b6
    clear b6 HK
    have HK := client_waiting c a1 a2 c.re.length k1 c.ac.length k2 w6
    unfold clV at HK
    go_wp2_with fail
    refine HK.mono ?_
    rintro e w7 ⟨rfl, b7⟩
    have B7 : Hid (Below wb.heap.size wb w7) := B6.out.trans (b7.mono B6.out.size)
    have HM7 : Hid (Mine w7 w2.heap.size c (.slice a1 c.re.length k1) (.slice a2 c.ac.length k2)) := HM6.out.below b7
    clear b7 HK HM6
    have Z9 := HX.out w7 (B7.out)
    obtain ⟨z0, fz0⟩ := Rg.blk_cell Z9.1.2 0 (x := .int .i64 0) rfl
    obtain ⟨z1, fz1⟩ := Rg.blk_cell Z9.1.2 1 (x := .int .i64 0) rfl
    obtain ⟨z2, fz2⟩ := Rg.blk_cell Z9.1.2 2 (x := .bool false) rfl
    obtain ⟨z3, fz3⟩ := Rg.blk_cell Z9.1.2 3 (x := .int .i64 0) rfl
    obtain ⟨z4, fz4⟩ := Rg.blk_cell Z9.1.2 4 (x := .int .i64 0) rfl
    obtain ⟨z5, fz5⟩ := Rg.blk_cell Z9.1.2 5 (x := .int .i64 0) rfl
    obtain ⟨z6, fz6⟩ := Rg.blk_cell Z9.1.2 6 (x := .int .i64 0) rfl
    obtain ⟨z7, fz7⟩ := Rg.blk_cell Z9.1.2 7 (x := .string ⟨#[]⟩) rfl
    obtain ⟨z8, fz8⟩ := Rg.blk_cell Z9.1.2 8 (x := .slice none 0 0) rfl
    obtain ⟨z9, fz9⟩ := Rg.blk_cell Z9.1.2 9 (x := .slice none 0 0) rfl
    obtain ⟨AF, HFB, GF0⟩ := set10 (.int .i64 0) (.int .i64 0) (.bool false) (.int .i64 0) (.int .i64 0) (.int .i64 0) (.int .i64 0) (.string ⟨#[]⟩) (.slice none 0 0) (.slice none 0 0) (.int .i64 c.id) (.int .i64 c.st) (.bool c.bu) (.int .i64 c.rc) (.int .i64 c.rs) (.int .i64 c.rk) (.int .i64 c.rl) (.string c.rn) (.slice a1 c.re.length k1) (.slice a2 c.ac.length k2) Z9.1.2
    have GF := GF0 (Z9.2) (Nat.le_succ _)
    have KF : Hid (Mine ((((((((((w7.setCell ⟨w.heap.size + 1, 0, none⟩ (.int .i64 c.id)).setCell ⟨w.heap.size + 1, 1, none⟩ (.int .i64 c.st)).setCell ⟨w.heap.size + 1, 2, none⟩ (.bool c.bu)).setCell ⟨w.heap.size + 1, 3, none⟩ (.int .i64 c.rc)).setCell ⟨w.heap.size + 1, 4, none⟩ (.int .i64 c.rs)).setCell ⟨w.heap.size + 1, 5, none⟩ (.int .i64 c.rk)).setCell ⟨w.heap.size + 1, 6, none⟩ (.int .i64 c.rl)).setCell ⟨w.heap.size + 1, 7, none⟩ (.string c.rn)).setCell ⟨w.heap.size + 1, 8, none⟩ (.slice a1 c.re.length k1)).setCell ⟨w.heap.size + 1, 9, none⟩ (.slice a2 c.ac.length k2)) w.heap.size c (.slice a1 c.re.length k1) (.slice a2 c.ac.length k2)) := (HM7.out.kept (fun g hg _ => HFB g (by have := HS2.out; omega))).mono (by have := HS2.out; omega)
    clear GF0 HFB Z9
    go_wp2_with fail
    generalize ((((((((((w7.setCell ⟨w.heap.size + 1, 0, none⟩ (.int .i64 c.id)).setCell ⟨w.heap.size + 1, 1, none⟩ (.int .i64 c.st)).setCell ⟨w.heap.size + 1, 2, none⟩ (.bool c.bu)).setCell ⟨w.heap.size + 1, 3, none⟩ (.int .i64 c.rc)).setCell ⟨w.heap.size + 1, 4, none⟩ (.int .i64 c.rs)).setCell ⟨w.heap.size + 1, 5, none⟩ (.int .i64 c.rk)).setCell ⟨w.heap.size + 1, 6, none⟩ (.int .i64 c.rl)).setCell ⟨w.heap.size + 1, 7, none⟩ (.string c.rn)).setCell ⟨w.heap.size + 1, 8, none⟩ (.slice a1 c.re.length k1)).setCell ⟨w.heap.size + 1, 9, none⟩ (.slice a2 c.ac.length k2)) = wf at AF GF KF ⊢
    have d0 := (Rg.blk_cell AF 0 (x := .int .i64 c.id) rfl).1
    have d1 := (Rg.blk_cell AF 1 (x := .int .i64 c.st) rfl).1
    have d2 := (Rg.blk_cell AF 2 (x := .bool c.bu) rfl).1
    have d3 := (Rg.blk_cell AF 3 (x := .int .i64 c.rc) rfl).1
    have d4 := (Rg.blk_cell AF 4 (x := .int .i64 c.rs) rfl).1
    have d5 := (Rg.blk_cell AF 5 (x := .int .i64 c.rk) rfl).1
    have d6 := (Rg.blk_cell AF 6 (x := .int .i64 c.rl) rfl).1
    have d7 := (Rg.blk_cell AF 7 (x := .string c.rn) rfl).1
    have d8 := (Rg.blk_cell AF 8 (x := .slice a1 c.re.length k1) rfl).1
    have d9 := (Rg.blk_cell AF 9 (x := .slice a2 c.ac.length k2) rfl).1
    exact bodyPost_ret (v := .tuple #[.agg #[.int .i64 c.id, .int .i64 c.st, .bool c.bu, .int .i64 c.rc, .int .i64 c.rs, .int .i64 c.rk, .int .i64 c.rl, .string c.rn, .slice a1 c.re.length k1, .slice a2 c.ac.length k2], .int .i64 15]) (by simp [results, Tryd.results7, go_sem, d0, d1, d2, d3, d4, d5, d6, d7, d8, d9]) rfl ⟨_, _, ret_tup (by rw [HV.out.1] <;> rfl) HV.out.2.symm, by rw [HV.out.1]; exact KF, GF⟩
  · have hb2 : c.bu = false := by simpa using hb
    rw [st_rest hb2]
    clear hb2
    by_cases h4 : c.st = 4000
    · have HV : Hid (caR n c k l nm = c ∧ caC n c k l nm = 13) := ca_used HLG.out HOKT.out hb h4
      have H4 : Hid (c.st = 4000) := h4
      clear hb h4
      have HK := restU_any c a1 a2 c.re.length k1 c.ac.length k2 k l nm w4 H4.out
      unfold clV at HK
      unfold clV
      go_wp2_with fail
      refine HK.mono ?_
      rintro e w6 ⟨rfl, b6⟩
      have B6 : Hid (Below wb.heap.size wb w6) := B4.out.trans (b6.mono B4.out.size)
      have HM6 : Hid (Mine w6 w2.heap.size c (.slice a1 c.re.length k1) (.slice a2 c.ac.length k2)) := HM4.out.below b6
      clear b6 HK
      have HK := client_resting c a1 a2 c.re.length k1 c.ac.length k2 w6
      unfold clV at HK
      go_wp2_with fail
      refine HK.mono ?_
      rintro e w7 ⟨rfl, b7⟩
      have B7 : Hid (Below wb.heap.size wb w7) := B6.out.trans (b7.mono B6.out.size)
      have HM7 : Hid (Mine w7 w2.heap.size c (.slice a1 c.re.length k1) (.slice a2 c.ac.length k2)) := HM6.out.below b7
      clear b7 HK HM6
      have Z9 := HX.out w7 (B7.out)
      obtain ⟨z0, fz0⟩ := Rg.blk_cell Z9.1.2 0 (x := .int .i64 0) rfl
      obtain ⟨z1, fz1⟩ := Rg.blk_cell Z9.1.2 1 (x := .int .i64 0) rfl
      obtain ⟨z2, fz2⟩ := Rg.blk_cell Z9.1.2 2 (x := .bool false) rfl
      obtain ⟨z3, fz3⟩ := Rg.blk_cell Z9.1.2 3 (x := .int .i64 0) rfl
      obtain ⟨z4, fz4⟩ := Rg.blk_cell Z9.1.2 4 (x := .int .i64 0) rfl
      obtain ⟨z5, fz5⟩ := Rg.blk_cell Z9.1.2 5 (x := .int .i64 0) rfl
      obtain ⟨z6, fz6⟩ := Rg.blk_cell Z9.1.2 6 (x := .int .i64 0) rfl
      obtain ⟨z7, fz7⟩ := Rg.blk_cell Z9.1.2 7 (x := .string ⟨#[]⟩) rfl
      obtain ⟨z8, fz8⟩ := Rg.blk_cell Z9.1.2 8 (x := .slice none 0 0) rfl
      obtain ⟨z9, fz9⟩ := Rg.blk_cell Z9.1.2 9 (x := .slice none 0 0) rfl
      obtain ⟨AF, HFB, GF0⟩ := set10 (.int .i64 0) (.int .i64 0) (.bool false) (.int .i64 0) (.int .i64 0) (.int .i64 0) (.int .i64 0) (.string ⟨#[]⟩) (.slice none 0 0) (.slice none 0 0) (.int .i64 c.id) (.int .i64 c.st) (.bool c.bu) (.int .i64 c.rc) (.int .i64 c.rs) (.int .i64 c.rk) (.int .i64 c.rl) (.string c.rn) (.slice a1 c.re.length k1) (.slice a2 c.ac.length k2) Z9.1.2
      have GF := GF0 (Z9.2) (Nat.le_succ _)
      have KF : Hid (Mine ((((((((((w7.setCell ⟨w.heap.size + 1, 0, none⟩ (.int .i64 c.id)).setCell ⟨w.heap.size + 1, 1, none⟩ (.int .i64 c.st)).setCell ⟨w.heap.size + 1, 2, none⟩ (.bool c.bu)).setCell ⟨w.heap.size + 1, 3, none⟩ (.int .i64 c.rc)).setCell ⟨w.heap.size + 1, 4, none⟩ (.int .i64 c.rs)).setCell ⟨w.heap.size + 1, 5, none⟩ (.int .i64 c.rk)).setCell ⟨w.heap.size + 1, 6, none⟩ (.int .i64 c.rl)).setCell ⟨w.heap.size + 1, 7, none⟩ (.string c.rn)).setCell ⟨w.heap.size + 1, 8, none⟩ (.slice a1 c.re.length k1)).setCell ⟨w.heap.size + 1, 9, none⟩ (.slice a2 c.ac.length k2)) w.heap.size c (.slice a1 c.re.length k1) (.slice a2 c.ac.length k2)) := (HM7.out.kept (fun g hg _ => HFB g (by have := HS2.out; omega))).mono (by have := HS2.out; omega)
      clear GF0 HFB Z9
      go_wp2_with fail
      generalize ((((((((((w7.setCell ⟨w.heap.size + 1, 0, none⟩ (.int .i64 c.id)).setCell ⟨w.heap.size + 1, 1, none⟩ (.int .i64 c.st)).setCell ⟨w.heap.size + 1, 2, none⟩ (.bool c.bu)).setCell ⟨w.heap.size + 1, 3, none⟩ (.int .i64 c.rc)).setCell ⟨w.heap.size + 1, 4, none⟩ (.int .i64 c.rs)).setCell ⟨w.heap.size + 1, 5, none⟩ (.int .i64 c.rk)).setCell ⟨w.heap.size + 1, 6, none⟩ (.int .i64 c.rl)).setCell ⟨w.heap.size + 1, 7, none⟩ (.string c.rn)).setCell ⟨w.heap.size + 1, 8, none⟩ (.slice a1 c.re.length k1)).setCell ⟨w.heap.size + 1, 9, none⟩ (.slice a2 c.ac.length k2)) = wf at AF GF KF ⊢
      have d0 := (Rg.blk_cell AF 0 (x := .int .i64 c.id) rfl).1
      have d1 := (Rg.blk_cell AF 1 (x := .int .i64 c.st) rfl).1
      have d2 := (Rg.blk_cell AF 2 (x := .bool c.bu) rfl).1
      have d3 := (Rg.blk_cell AF 3 (x := .int .i64 c.rc) rfl).1
      have d4 := (Rg.blk_cell AF 4 (x := .int .i64 c.rs) rfl).1
      have d5 := (Rg.blk_cell AF 5 (x := .int .i64 c.rk) rfl).1
      have d6 := (Rg.blk_cell AF 6 (x := .int .i64 c.rl) rfl).1
      have d7 := (Rg.blk_cell AF 7 (x := .string c.rn) rfl).1
      have d8 := (Rg.blk_cell AF 8 (x := .slice a1 c.re.length k1) rfl).1
      have d9 := (Rg.blk_cell AF 9 (x := .slice a2 c.ac.length k2) rfl).1
      exact bodyPost_ret (v := .tuple #[.agg #[.int .i64 c.id, .int .i64 c.st, .bool c.bu, .int .i64 c.rc, .int .i64 c.rs, .int .i64 c.rk, .int .i64 c.rl, .string c.rn, .slice a1 c.re.length k1, .slice a2 c.ac.length k2], .int .i64 13]) (by simp [results, Tryd.results7, go_sem, d0, d1, d2, d3, d4, d5, d6, d7, d8, d9]) rfl ⟨_, _, ret_tup (by rw [HV.out.1] <;> rfl) HV.out.2.symm, by rw [HV.out.1]; exact KF, GF⟩
    · cases hq : reqB c.id (c.st + 1) k l nm with
      | false =>
        have HV : Hid (caR n c k l nm = c ∧ caC n c k l nm = 3) := ca_form HLG.out HOKT.out hb h4 hq
        have H4 : Hid (¬ c.st = 4000 ∧ reqB c.id (c.st + 1) k l nm = false) := ⟨h4, hq⟩
        clear hb h4 hq
        have HK := restF_any c a1 a2 c.re.length k1 c.ac.length k2 k l nm w4 H4.out.1 (ok_st HOKT.out).1 (ok_st HOKT.out).2 HZ.out.2 H4.out.2
        unfold clV at HK
        unfold clV
        go_wp2_with fail
        refine HK.mono ?_
        rintro e w6 ⟨rfl, b6⟩
        have B6 : Hid (Below wb.heap.size wb w6) := B4.out.trans (b6.mono B4.out.size)
        have HM6 : Hid (Mine w6 w2.heap.size c (.slice a1 c.re.length k1) (.slice a2 c.ac.length k2)) := HM4.out.below b6
        clear b6 HK
        have HK := client_resting c a1 a2 c.re.length k1 c.ac.length k2 w6
        unfold clV at HK
        go_wp2_with fail
        refine HK.mono ?_
        rintro e w7 ⟨rfl, b7⟩
        have B7 : Hid (Below wb.heap.size wb w7) := B6.out.trans (b7.mono B6.out.size)
        have HM7 : Hid (Mine w7 w2.heap.size c (.slice a1 c.re.length k1) (.slice a2 c.ac.length k2)) := HM6.out.below b7
        clear b7 HK HM6
        have Z9 := HX.out w7 (B7.out)
        obtain ⟨z0, fz0⟩ := Rg.blk_cell Z9.1.2 0 (x := .int .i64 0) rfl
        obtain ⟨z1, fz1⟩ := Rg.blk_cell Z9.1.2 1 (x := .int .i64 0) rfl
        obtain ⟨z2, fz2⟩ := Rg.blk_cell Z9.1.2 2 (x := .bool false) rfl
        obtain ⟨z3, fz3⟩ := Rg.blk_cell Z9.1.2 3 (x := .int .i64 0) rfl
        obtain ⟨z4, fz4⟩ := Rg.blk_cell Z9.1.2 4 (x := .int .i64 0) rfl
        obtain ⟨z5, fz5⟩ := Rg.blk_cell Z9.1.2 5 (x := .int .i64 0) rfl
        obtain ⟨z6, fz6⟩ := Rg.blk_cell Z9.1.2 6 (x := .int .i64 0) rfl
        obtain ⟨z7, fz7⟩ := Rg.blk_cell Z9.1.2 7 (x := .string ⟨#[]⟩) rfl
        obtain ⟨z8, fz8⟩ := Rg.blk_cell Z9.1.2 8 (x := .slice none 0 0) rfl
        obtain ⟨z9, fz9⟩ := Rg.blk_cell Z9.1.2 9 (x := .slice none 0 0) rfl
        obtain ⟨AF, HFB, GF0⟩ := set10 (.int .i64 0) (.int .i64 0) (.bool false) (.int .i64 0) (.int .i64 0) (.int .i64 0) (.int .i64 0) (.string ⟨#[]⟩) (.slice none 0 0) (.slice none 0 0) (.int .i64 c.id) (.int .i64 c.st) (.bool c.bu) (.int .i64 c.rc) (.int .i64 c.rs) (.int .i64 c.rk) (.int .i64 c.rl) (.string c.rn) (.slice a1 c.re.length k1) (.slice a2 c.ac.length k2) Z9.1.2
        have GF := GF0 (Z9.2) (Nat.le_succ _)
        have KF : Hid (Mine ((((((((((w7.setCell ⟨w.heap.size + 1, 0, none⟩ (.int .i64 c.id)).setCell ⟨w.heap.size + 1, 1, none⟩ (.int .i64 c.st)).setCell ⟨w.heap.size + 1, 2, none⟩ (.bool c.bu)).setCell ⟨w.heap.size + 1, 3, none⟩ (.int .i64 c.rc)).setCell ⟨w.heap.size + 1, 4, none⟩ (.int .i64 c.rs)).setCell ⟨w.heap.size + 1, 5, none⟩ (.int .i64 c.rk)).setCell ⟨w.heap.size + 1, 6, none⟩ (.int .i64 c.rl)).setCell ⟨w.heap.size + 1, 7, none⟩ (.string c.rn)).setCell ⟨w.heap.size + 1, 8, none⟩ (.slice a1 c.re.length k1)).setCell ⟨w.heap.size + 1, 9, none⟩ (.slice a2 c.ac.length k2)) w.heap.size c (.slice a1 c.re.length k1) (.slice a2 c.ac.length k2)) := (HM7.out.kept (fun g hg _ => HFB g (by have := HS2.out; omega))).mono (by have := HS2.out; omega)
        clear GF0 HFB Z9
        go_wp2_with fail
        generalize ((((((((((w7.setCell ⟨w.heap.size + 1, 0, none⟩ (.int .i64 c.id)).setCell ⟨w.heap.size + 1, 1, none⟩ (.int .i64 c.st)).setCell ⟨w.heap.size + 1, 2, none⟩ (.bool c.bu)).setCell ⟨w.heap.size + 1, 3, none⟩ (.int .i64 c.rc)).setCell ⟨w.heap.size + 1, 4, none⟩ (.int .i64 c.rs)).setCell ⟨w.heap.size + 1, 5, none⟩ (.int .i64 c.rk)).setCell ⟨w.heap.size + 1, 6, none⟩ (.int .i64 c.rl)).setCell ⟨w.heap.size + 1, 7, none⟩ (.string c.rn)).setCell ⟨w.heap.size + 1, 8, none⟩ (.slice a1 c.re.length k1)).setCell ⟨w.heap.size + 1, 9, none⟩ (.slice a2 c.ac.length k2)) = wf at AF GF KF ⊢
        have d0 := (Rg.blk_cell AF 0 (x := .int .i64 c.id) rfl).1
        have d1 := (Rg.blk_cell AF 1 (x := .int .i64 c.st) rfl).1
        have d2 := (Rg.blk_cell AF 2 (x := .bool c.bu) rfl).1
        have d3 := (Rg.blk_cell AF 3 (x := .int .i64 c.rc) rfl).1
        have d4 := (Rg.blk_cell AF 4 (x := .int .i64 c.rs) rfl).1
        have d5 := (Rg.blk_cell AF 5 (x := .int .i64 c.rk) rfl).1
        have d6 := (Rg.blk_cell AF 6 (x := .int .i64 c.rl) rfl).1
        have d7 := (Rg.blk_cell AF 7 (x := .string c.rn) rfl).1
        have d8 := (Rg.blk_cell AF 8 (x := .slice a1 c.re.length k1) rfl).1
        have d9 := (Rg.blk_cell AF 9 (x := .slice a2 c.ac.length k2) rfl).1
        exact bodyPost_ret (v := .tuple #[.agg #[.int .i64 c.id, .int .i64 c.st, .bool c.bu, .int .i64 c.rc, .int .i64 c.rs, .int .i64 c.rk, .int .i64 c.rl, .string c.rn, .slice a1 c.re.length k1, .slice a2 c.ac.length k2], .int .i64 3]) (by simp [results, Tryd.results7, go_sem, d0, d1, d2, d3, d4, d5, d6, d7, d8, d9]) rfl ⟨_, _, ret_tup (by rw [HV.out.1] <;> rfl) HV.out.2.symm, by rw [HV.out.1]; exact KF, GF⟩
      | true =>
        have HV : Hid (caR n c k l nm = cal c k l nm ∧ caC n c k l nm = 0) := ca_go HLG.out HOKT.out hb h4 hq
        have H4 : Hid (¬ c.st = 4000 ∧ reqB c.id (c.st + 1) k l nm = true) := ⟨h4, hq⟩
        clear hb h4 hq
        have HK := restG_any c a1 a2 c.re.length k1 c.ac.length k2 k l nm w4 H4.out.1 (ok_st HOKT.out).1 (ok_st HOKT.out).2 HZ.out.2 H4.out.2
        unfold clV cal at HK
        unfold clV
        go_wp2_with fail
        refine HK.mono ?_
        rintro e w6 ⟨rfl, b6⟩
        have B6 : Hid (Below wb.heap.size wb w6) := B4.out.trans (b6.mono B4.out.size)
        have HM6 : Hid (Mine w6 w2.heap.size c (.slice a1 c.re.length k1) (.slice a2 c.ac.length k2)) := HM4.out.below b6
        clear b6 HK
        have HK := client_waiting (cal c k l nm) none a2 0 0 c.ac.length k2 w6
        unfold clV cal at HK
        go_wp2_with fail
        refine HK.mono ?_
        rintro e w7 ⟨rfl, b7⟩
        have B7 : Hid (Below wb.heap.size wb w7) := B6.out.trans (b7.mono B6.out.size)
        have HM7 : Hid (Mine w7 w2.heap.size c (.slice a1 c.re.length k1) (.slice a2 c.ac.length k2)) := HM6.out.below b7
        clear b7 HK HM6
        have Z9 := HX.out w7 (B7.out)
        obtain ⟨z0, fz0⟩ := Rg.blk_cell Z9.1.2 0 (x := .int .i64 0) rfl
        obtain ⟨z1, fz1⟩ := Rg.blk_cell Z9.1.2 1 (x := .int .i64 0) rfl
        obtain ⟨z2, fz2⟩ := Rg.blk_cell Z9.1.2 2 (x := .bool false) rfl
        obtain ⟨z3, fz3⟩ := Rg.blk_cell Z9.1.2 3 (x := .int .i64 0) rfl
        obtain ⟨z4, fz4⟩ := Rg.blk_cell Z9.1.2 4 (x := .int .i64 0) rfl
        obtain ⟨z5, fz5⟩ := Rg.blk_cell Z9.1.2 5 (x := .int .i64 0) rfl
        obtain ⟨z6, fz6⟩ := Rg.blk_cell Z9.1.2 6 (x := .int .i64 0) rfl
        obtain ⟨z7, fz7⟩ := Rg.blk_cell Z9.1.2 7 (x := .string ⟨#[]⟩) rfl
        obtain ⟨z8, fz8⟩ := Rg.blk_cell Z9.1.2 8 (x := .slice none 0 0) rfl
        obtain ⟨z9, fz9⟩ := Rg.blk_cell Z9.1.2 9 (x := .slice none 0 0) rfl
        obtain ⟨AF, HFB, GF0⟩ := set10 (.int .i64 0) (.int .i64 0) (.bool false) (.int .i64 0) (.int .i64 0) (.int .i64 0) (.int .i64 0) (.string ⟨#[]⟩) (.slice none 0 0) (.slice none 0 0) (.int .i64 c.id) (.int .i64 (c.st + 1)) (.bool true) (.int .i64 c.id) (.int .i64 (c.st + 1)) (.int .i64 k) (.int .i64 l) (.string nm) (.slice none 0 0) (.slice a2 c.ac.length k2) Z9.1.2
        have GF := GF0 (Z9.2) (Nat.le_succ _)
        have KF : Hid (Mine ((((((((((w7.setCell ⟨w.heap.size + 1, 0, none⟩ (.int .i64 c.id)).setCell ⟨w.heap.size + 1, 1, none⟩ (.int .i64 (c.st + 1))).setCell ⟨w.heap.size + 1, 2, none⟩ (.bool true)).setCell ⟨w.heap.size + 1, 3, none⟩ (.int .i64 c.id)).setCell ⟨w.heap.size + 1, 4, none⟩ (.int .i64 (c.st + 1))).setCell ⟨w.heap.size + 1, 5, none⟩ (.int .i64 k)).setCell ⟨w.heap.size + 1, 6, none⟩ (.int .i64 l)).setCell ⟨w.heap.size + 1, 7, none⟩ (.string nm)).setCell ⟨w.heap.size + 1, 8, none⟩ (.slice none 0 0)).setCell ⟨w.heap.size + 1, 9, none⟩ (.slice a2 c.ac.length k2)) w.heap.size (cal c k l nm) (.slice none 0 0) (.slice a2 c.ac.length k2)) := ⟨Rr11.OwnR.nil _ _, ((HM7.out.kept (fun g hg _ => HFB g (by have := HS2.out; omega))).mono (by have := HS2.out; omega)).2⟩
        clear GF0 HFB Z9
        go_wp2_with fail
        generalize ((((((((((w7.setCell ⟨w.heap.size + 1, 0, none⟩ (.int .i64 c.id)).setCell ⟨w.heap.size + 1, 1, none⟩ (.int .i64 (c.st + 1))).setCell ⟨w.heap.size + 1, 2, none⟩ (.bool true)).setCell ⟨w.heap.size + 1, 3, none⟩ (.int .i64 c.id)).setCell ⟨w.heap.size + 1, 4, none⟩ (.int .i64 (c.st + 1))).setCell ⟨w.heap.size + 1, 5, none⟩ (.int .i64 k)).setCell ⟨w.heap.size + 1, 6, none⟩ (.int .i64 l)).setCell ⟨w.heap.size + 1, 7, none⟩ (.string nm)).setCell ⟨w.heap.size + 1, 8, none⟩ (.slice none 0 0)).setCell ⟨w.heap.size + 1, 9, none⟩ (.slice a2 c.ac.length k2)) = wf at AF GF KF ⊢
        have d0 := (Rg.blk_cell AF 0 (x := .int .i64 c.id) rfl).1
        have d1 := (Rg.blk_cell AF 1 (x := .int .i64 (c.st + 1)) rfl).1
        have d2 := (Rg.blk_cell AF 2 (x := .bool true) rfl).1
        have d3 := (Rg.blk_cell AF 3 (x := .int .i64 c.id) rfl).1
        have d4 := (Rg.blk_cell AF 4 (x := .int .i64 (c.st + 1)) rfl).1
        have d5 := (Rg.blk_cell AF 5 (x := .int .i64 k) rfl).1
        have d6 := (Rg.blk_cell AF 6 (x := .int .i64 l) rfl).1
        have d7 := (Rg.blk_cell AF 7 (x := .string nm) rfl).1
        have d8 := (Rg.blk_cell AF 8 (x := .slice none 0 0) rfl).1
        have d9 := (Rg.blk_cell AF 9 (x := .slice a2 c.ac.length k2) rfl).1
        exact bodyPost_ret (v := .tuple #[.agg #[.int .i64 c.id, .int .i64 (c.st + 1), .bool true, .int .i64 c.id, .int .i64 (c.st + 1), .int .i64 k, .int .i64 l, .string nm, .slice none 0 0, .slice a2 c.ac.length k2], .int .i64 0]) (by simp [results, Tryd.results7, go_sem, d0, d1, d2, d3, d4, d5, d6, d7, d8, d9]) rfl ⟨_, _, ret_tup (by rw [HV.out.1] <;> rfl) HV.out.2.symm, by rw [HV.out.1]; exact KF, GF⟩
end Go.Proofs.YtiflfcpoajijaaaDoor.Cl
