/- Texts put together: Bo2, Tkb, Tz, Rw, Shelf. -/
import Derived.Test.YtkfiahemgdppfaaGreatDoorM2
import Derived.Test.YtkfiahemgdppfaaGreatDoorM1
import Derived.Maps.AppendAt
import Derived.Deep.RegionHeldLaw
import Derived.Deep.RegionWith
import Derived.Test.YtkfiahemgdppfaaGreatDoorM0
import Derived.Lib.SmallJoins
import Derived.Lib.ConvBytes
import Derived.Laws.MakeOwn
import Derived.Laws.NewBlocks
import Derived.Deep.QuietTactic
import Derived.BigQuiet
import Derived.Deep.Slices
import Derived.Deep.Fields23
import Derived.OpenShut
import Derived.Deep.RegionLaw
import Derived.BigRegion
import Derived.Shelf.Strings.OnBuilder
import Derived.Test.YtkfiahemgdppfaaGreatDoorProg
/- Batches that are right: batchOK, l02BatchOK. -/
namespace Go.Proofs.YtkfiahemgdppfaaGreatDoor.Bo
open Go.RowKit Go.Proofs.YtkfiahemgdppfaaGreatDoor.Rg Go.Proofs.YtkfiahemgdppfaaGreatDoor.Gr Go.Proofs.YtkfiahemgdppfaaGreatDoor.Rq

theorem guardR (op : BinOp) (a b : Operand) (xs ys : Array Value) (W : World) : (eqGuard op 118 a b (.agg xs) (.agg ys)).run Tryz.prog W = .ok () W := run_eqGuard_agg W op 118 a b xs ys (by kernel_rfl)
set_option maxRecDepth 100000 in
theorem eqlR (c st k l : Int) (n : ByteArray) (W : World) : (binOp .eql 118 (.agg #[.int .i64 c, .int .i64 st, .int .i64 k, .int .i64 l, .string n]) (.agg #[.int .i64 0, .int .i64 0, .int .i64 0, .int .i64 0, .string ⟨#[]⟩])).run Tryz.prog W = .ok (.bool (zB c st k l n)) W := by
  unfold zB
  rw [run_eql_struct, run_equalIn_struct W 9999 118 _ _ (by kernel_rfl) (by kernel_rfl)]
  simp [go_sem, Program.fieldsOf, Tryz.underlying118, Tryz.underlying3, Tryz.underlying9]
  repeat' split
  all_goals simp_all
/-- The block of a boxed batch. -/
theorem bat_box {w w1 : World} {nl : Bool} {c st k l : Int} {n : ByteArray} {vr : Value} (b : Below (w.alloc (.cells #[.bool nl, .int .i64 c, .int .i64 st, .int .i64 k, .int .i64 l, .string n, vr] 121)).heap.size (w.alloc (.cells #[.bool nl, .int .i64 c, .int .i64 st, .int .i64 k, .int .i64 l, .string n, vr] 121)) w1) :
    w1.cell? ⟨w.heap.size, 0, none⟩ = some (.bool nl) ∧ w1.cell? ⟨w.heap.size, 1, none⟩ = some (.int .i64 c) ∧ w1.cell? ⟨w.heap.size, 2, none⟩ = some (.int .i64 st) ∧ w1.cell? ⟨w.heap.size, 3, none⟩ = some (.int .i64 k) ∧ w1.cell? ⟨w.heap.size, 4, none⟩ = some (.int .i64 l) ∧ w1.cell? ⟨w.heap.size, 5, none⟩ = some (.string n) ∧ w1.cell? ⟨w.heap.size, 6, none⟩ = some vr ∧ Below w.heap.size w w1 := by
  have h := (b.block w.heap.size (by simp)).trans (heap_alloc_new w _)
  exact ⟨(blk_cell h 0 rfl).1, (blk_cell h 1 rfl).1, (blk_cell h 2 rfl).1, (blk_cell h 3 rfl).1, (blk_cell h 4 rfl).1, (blk_cell h 5 rfl).1, (blk_cell h 6 rfl).1, (bel_new w _).trans (b.mono (by simp))⟩
set_option maxRecDepth 100000 in
set_option maxHeartbeats 800000 in
theorem batchOK_any (nl : Bool) (c st k l : Int) (n : ByteArray) (vr : Value) (rs : List Rd) (w : World) (h : Row w vr rs) (hl : rs.length ≤ 1048576) (hn : n.size ≤ maxLen) :
    Calls Tryz.prog 128 #[batV nl c st k l n vr] w fun e w' => e = .returned (.bool (bOK nl c st k l n rs)) ∧ Below w.heap.size w w' := by
  have HR : Hid (Row w vr rs) := h
  obtain ⟨a, cap, rfl⟩ := RowG.slice h
  clear h
  have HN : Hid (n.size ≤ maxLen) := hn
  clear hn
  unfold batV
  have HB : Hid (Below w.heap.size w (w.alloc (.cells #[.bool nl, .int .i64 c, .int .i64 st, .int .i64 k, .int .i64 l, .string n, .slice a rs.length cap] 121))) := bel_new _ _
  cases nl with
  | true =>
    have HE : Hid (bOK true c st k l n rs = (zB c st k l n && ((rs.length : Int) == 0))) := rfl
    have hq1 := eqlR c st k l n
    have hq2 := guardR
    cases hz : zB c st k l n with
    | false =>
      rw [hz] at hq1 HE
      go_enter Tryz.func128, Tryz.ntmps128
      go_wp2_with fail
      go_ret
      exact ⟨ret_b (by rw [HE.out]; rfl), HB.out⟩
    | true =>
      rw [hz] at hq1 HE
      go_enter Tryz.func128, Tryz.ntmps128
      go_wp2_with fail
      go_ret
      exact ⟨ret_b (by rw [HE.out]; simp), HB.out⟩
  | false =>
    have HE : Hid (bOK false c st k l n rs = (reqB c st k l n && rOK 0 rs)) := rfl
    have C := implRequestOK_any c st k l n (w.alloc (.cells #[.bool false, .int .i64 c, .int .i64 st, .int .i64 k, .int .i64 l, .string n, .slice a rs.length cap] 121)) HN.out
    unfold reqV at C
    have HC : Hid (Calls Tryz.prog 145 #[.agg #[.int .i64 c, .int .i64 st, .int .i64 k, .int .i64 l, .string n]] (w.alloc (.cells #[.bool false, .int .i64 c, .int .i64 st, .int .i64 k, .int .i64 l, .string n, .slice a rs.length cap] 121)) fun e w' => e = .returned (.bool (reqB c st k l n)) ∧ Below (w.alloc (.cells #[.bool false, .int .i64 c, .int .i64 st, .int .i64 k, .int .i64 l, .string n, .slice a rs.length cap] 121)).heap.size (w.alloc (.cells #[.bool false, .int .i64 c, .int .i64 st, .int .i64 k, .int .i64 l, .string n, .slice a rs.length cap] 121)) w') := C
    clear C
    go_enter Tryz.func128, Tryz.ntmps128
    go_wp2_with fail
    refine HC.out.mono ?_
    rintro e w1 ⟨rfl, b1⟩
    obtain ⟨q0, q1, q2, q3, q4, q5, q6, b0⟩ := bat_box b1
    have HB1 : Hid (Below w.heap.size w w1) := b0
    clear b1 b0 HC
    cases hq : reqB c st k l n with
    | false =>
      rw [hq] at HE
      go_wp2_with fail
      go_ret
      exact ⟨ret_b (by rw [HE.out]; rfl), HB1.out⟩
    | true =>
      rw [hq] at HE
      go_wp2_with fail
      refine (readingsOK_any _ rs w1 (HR.out.below HB1.out) hl).mono ?_
      rintro e w2 ⟨rfl, b2⟩
      have HB2 : Hid (Below w.heap.size w w2) := HB1.out.trans (b2.mono HB1.out.size)
      clear b2 q0 q1 q2 q3 q4 q5 q6
      generalize rOK 0 rs = o at HE
      go_wp2_with fail
      go_ret
      exact ⟨ret_b (by rw [HE.out]; rfl), HB2.out⟩
set_option maxRecDepth 100000 in
set_option maxHeartbeats 800000 in
theorem l02Reading_any (x : Rd) (w : World) :
    Calls Tryz.prog 100 #[oneV x] w fun e w' => e = .returned (.bool (r1 0 x)) ∧ Below w.heap.size w w' := by
  have HB : Hid (Below w.heap.size w (w.alloc (.cells #[.int .i64 x.f, .int .i64 x.x, .string x.m] 157))) := bel_new _ _
  have HE : Hid (r1 0 x = (inB x.f 0 6 && (inB x.x 0 1000000000 && ((x.m.size : Int) == 8)))) := rfl
  unfold oneV
  cases g1 : inB x.f 0 6 with
  | false =>
    rw [g1] at HE
    go_enter Tryz.func100, Tryz.ntmps100
    go_wp2_with (go_at_call 23; refine (in_any _ _ _ _).mono ?_; rintro e w1 ⟨rfl, rfl⟩; rw [g1])
    go_ret
    exact ⟨ret_b (by rw [HE.out]; rfl), HB.out⟩
  | true =>
    cases g2 : inB x.x 0 1000000000 with
    | false =>
      rw [g1, g2] at HE
      go_enter Tryz.func100, Tryz.ntmps100
      go_wp2_with (go_at_call 23; refine (in_any _ _ _ _).mono ?_; rintro e w1 ⟨rfl, rfl⟩; first | rw [g1] | rw [g2])
      go_ret
      exact ⟨ret_b (by rw [HE.out]; rfl), HB.out⟩
    | true =>
      rw [g1, g2] at HE
      go_enter Tryz.func100, Tryz.ntmps100
      go_wp2_with (go_at_call 23; refine (in_any _ _ _ _).mono ?_; rintro e w1 ⟨rfl, rfl⟩; first | rw [g1] | rw [g2])
      go_ret
      exact ⟨ret_b (by rw [HE.out]; rfl), HB.out⟩
/-- Readings rise: the specification's way to say it. -/
theorem r1_split {l : Int} {x : Rd} (hl : 0 ≤ l) : r1 l x = (r1 0 x && decide (l ≤ x.f)) := by
  unfold r1 inB
  rw [Bool.eq_iff_iff]
  simp only [Bool.and_eq_true, decide_eq_true_eq]
  constructor
  · rintro ⟨⟨h1, h2⟩, h3⟩; exact ⟨⟨⟨by omega, h2⟩, h3⟩, h1⟩
  · rintro ⟨⟨⟨_, h2⟩, h3⟩, h1⟩; exact ⟨⟨h1, h2⟩, h3⟩
end Go.Proofs.YtkfiahemgdppfaaGreatDoor.Bo

/- Readings in a row of one's own; a batch is taken off the wire. -/
namespace Go.Proofs.YtkfiahemgdppfaaGreatDoor.Tkb
open Go.RowKit Go.Proofs.YtkfiahemgdppfaaGreatDoor.Sl Go.Proofs.YtkfiahemgdppfaaGreatDoor.By Go.Proofs.YtkfiahemgdppfaaGreatDoor.Ap Go.Proofs.YtkfiahemgdppfaaGreatDoor.Rq Go.Proofs.YtkfiahemgdppfaaGreatDoor.Rr Go.Proofs.YtkfiahemgdppfaaGreatDoor.Gr Go.Proofs.YtkfiahemgdppfaaGreatDoor.Bo
open Go.Proofs.YtkfiahemgdppfaaGreatDoor.Rg (RowG RowG.slice RowG.at lt_at mem_at bel_new)

def cl (x : Rd) : List Value := [.int .i64 x.f, .int .i64 x.x, .string x.m]
theorem cl_len (x : Rd) : (cl x).length = 3 := rfl
theorem cl_one (x : Rd) : ∀ u ∈ cl x, u.oneCell' = true := by
  intro u hu
  unfold cl at hu
  simp only [List.mem_cons, List.not_mem_nil, or_false] at hu
  rcases hu with h | h | h <;> (rw [h]; rfl)
theorem fm_len : ∀ (ms : List Rd), (ms.flatMap cl).length = ms.length * 3
  | [] => rfl
  | x :: xs => by rw [List.flatMap_cons, List.length_append, fm_len xs, cl_len, List.length_cons]; omega
theorem fm_at : ∀ (ms : List Rd) (i : Nat) (x : Rd) (j : Nat), ms[i]? = some x → j < 3 → (ms.flatMap cl)[i * 3 + j]? = (cl x)[j]?
  | [], i, x, j, h, _ => by simp at h
  | y :: ys, 0, x, j, h, hj => by
    simp at h
    subst h
    rw [List.flatMap_cons, Nat.zero_mul, Nat.zero_add, List.getElem?_append_left (by rw [cl_len]; exact hj)]
  | y :: ys, i + 1, x, j, h, hj => by
    have h' : ys[i]? = some x := by simpa using h
    rw [List.flatMap_cons, List.getElem?_append_right (by rw [cl_len]; omega), cl_len, show (i + 1) * 3 + j - 3 = i * 3 + j by omega]
    exact fm_at ys i x j h' hj
/-- Messages in a slice of the call's own. -/
def OwnR (w : World) (B : Nat) (v : Value) (ms : List Rd) : Prop := w.ownsRow B 157 3 v ms.length (ms.flatMap cl)
theorem OwnR.row {w : World} {B : Nat} {v : Value} {ms : List Rd} (h : OwnR w B v ms) : Row w v ms := by
  obtain ⟨hl, h⟩ := h
  rcases h with ⟨rfl, h0⟩ | ⟨g, cap, cur, rfl, hB, hg, hc, _, hs, htk⟩
  · exact ⟨none, 0, by rw [h0], .inl (List.length_eq_zero_iff.1 h0)⟩
  · refine ⟨_, cap, rfl, .inr ⟨g, 0, rfl, hc, (Array.getElem?_eq_some_iff.1 hg).1, fun i x hi => ?_⟩⟩
    have hil := lt_at hi
    have key : ∀ j u, j < 3 → (cl x)[j]? = some u → w.cell? ⟨g, 0 + i * 3 + j, none⟩ = some u := fun j u hj hu => by
      rw [Nat.zero_add, Joins.cell_of_block hg, ← Array.getElem?_toList]
      have h1 := fm_at ms i x j hi hj
      rw [← htk, List.getElem?_take, if_pos (by omega)] at h1
      rw [h1, hu]
    exact ⟨key 0 _ (by decide) rfl, key 1 _ (by decide) rfl, key 2 _ (by decide) rfl⟩
theorem OwnR.kept {w w' : World} {B : Nat} {v : Value} {ms : List Rd} (h : OwnR w B v ms) (hk : ∀ g, v.ownBlock = some g → w'.heap[g]? = w.heap[g]?) : OwnR w' B v ms := by
  obtain ⟨hl, h⟩ := h
  refine ⟨hl, ?_⟩
  rcases h with h | ⟨g, cap, cur, rfl, h1, hg, h2⟩
  · exact .inl h
  · exact .inr ⟨g, cap, cur, rfl, h1, (hk g rfl).trans hg, h2⟩
theorem OwnR.lt {w : World} {B : Nat} {v : Value} {ms : List Rd} (h : OwnR w B v ms) : ∀ g, v.ownBlock = some g → B ≤ g ∧ g < w.heap.size := World.ownsRow.lt h
theorem OwnR.below {w w' : World} {B : Nat} {v : Value} {ms : List Rd} (h : OwnR w B v ms) (hb : Below w.heap.size w w') : OwnR w' B v ms := h.kept fun g hg => hb.block g (h.lt g hg).2
theorem OwnR.mono {w : World} {B B' : Nat} {v : Value} {ms : List Rd} (h : OwnR w B v ms) (hb : B' ≤ B) : OwnR w B' v ms := by
  obtain ⟨hl, h⟩ := h
  refine ⟨hl, ?_⟩
  rcases h with h | ⟨g, cap, cur, rfl, h1, hg, h2⟩
  · exact .inl h
  · exact .inr ⟨g, cap, cur, rfl, Nat.le_trans hb h1, hg, h2⟩
theorem OwnR.nil (w : World) (B : Nat) : OwnR w B (.slice none 0 0) [] := World.ownsRow_nil _ _ _ _
theorem OwnR.made (w : World) (B : Nat) (hB : B ≤ w.heap.size) : OwnR (w.alloc (.cells #[] 157)) B (.slice (some ⟨w.heap.size, 0, none⟩) 0 0) [] := World.ownsRow_made w #[] 0 hB (by decide) rfl
theorem OwnR.alloc {w : World} {B : Nat} {v : Value} {ms : List Rd} (h : OwnR w B v ms) (o : Obj) : OwnR (w.alloc o) B v ms := h.below (bel_new _ _)
theorem info_r : (Tryz.prog.info? 157).map (fun i => (i.zero, i.size, i.bytes)) = some (some (.agg #[.int .i64 0, .int .i64 0, .string ⟨#[]⟩]), 3, 32) := by kernel_rfl
/-- Nothing was written but v's own row, and new blocks. -/
def Kq (W w' : World) (v v' : Value) : Prop := ∀ k, k < W.heap.size → some k ≠ v.ownBlock → w'.heap[k]? = W.heap[k]? ∧ some k ≠ v'.ownBlock
/-- One message more. -/
theorem list_rd {P : Program} {ops : Array Oper} {rest : List Oper} {o : Oper} {a : Act} {Q : Exit → Act → World → Prop} (hgd : o.guard = none) (s x : Operand) (t : TypeId)
    (ho : o.op = .call { callee := .builtin .append, args := #[s, x], argTypes := #[t, t] }) (i : TypeInfo) (ht : P.underlying t = some (.slice 157)) (hi : P.info? 157 = some i) (hz : i.zero = some (.agg #[.int .i64 0, .int .i64 0, .string ⟨#[]⟩]))
    (hsize : i.size = 3) (hby : i.bytes = 32) (B : Nat) (w0 W : World) (v : Value) (ms : List Rd) (m : Rd) (hs : a.eval s = v) (hown : OwnR W B v ms) (hg0 : Below B w0 W) (hB : B ≤ W.heap.size)
    (gx : Nat) (hx : a.eval x = .slice (some ⟨gx, 0, none⟩) 1 1) (hgx : W.heap.size = gx) (hlen : ms.length ≤ 1000000)
    (h : ∀ v' w', OwnR w' B v' (ms ++ [m]) → Below B w0 w' → Kq W w' v v' → wpList P ops Q rest (a.put o.dst v') w') : wpList P ops Q (o :: rest) a (W.alloc (.cells #[.int .i64 m.f, .int .i64 m.x, .string m.m] 157)) := by
  subst hgx
  have hown' := hown.alloc (.cells #[.int .i64 m.f, .int .i64 m.x, .string m.m] 157)
  refine wpList_append_own_at (P := P) _ hgd s x t ho B 157 i _ 3 32 ht hi hz hsize hby rfl (by decide) v ms.length _ hs hown' ⟨W.heap.size, 0, none⟩ 1 1 (cl m) hx rfl ?_ (cl_one m) (by unfold maxLen; omega) (by omega) (by simp; omega) ?_
  · intro j u hj
    have h2 : (⟨W.heap.size, 0, none⟩ : Addr).add j = ⟨W.heap.size, j, none⟩ := by unfold Addr.add; split <;> simp_all
    rw [h2, Joins.cell_of_block (heap_alloc_new W _), ← hj]
    simp [cl]
  · intro v' w' h1 h2 h3 h4
    refine h v' w' (by unfold OwnR; rw [List.flatMap_append, List.length_append]; simpa using h1) ((hg0.alloc hB _).grown h2 (by simp; omega) (fun k hk => (hown'.lt k hk).1)) (fun k hk hn => ⟨(h2.block k (by simp; omega) hn).trans (Below.heap_alloc W _ k hk), fun e => ?_⟩)
    rcases h4 with h4 | h4
    · exact hn (e.trans h4)
    · rw [h4] at e
      simp at e
      omega

/-- The reading that bytes tell. -/
def rd1 (xs : List Int) : Rd := ⟨beN (tkB 1 xs), beN (tkB 4 (tkR 1 xs)), strOfNums (tkB 8 (tkR 4 (tkR 1 xs)))⟩
def rdRest (xs : List Int) : List Int := tkR 8 (tkR 4 (tkR 1 xs))
def rdSh (xs : List Int) (sh : Bool) : Bool := tkS 8 (tkR 4 (tkR 1 xs)) (tkS 4 (tkR 1 xs) (tkS 1 xs sh))
/-- What is left behind k readings, whether they fell short, the readings. -/
def bR (xs : List Int) : Nat → List Int
  | 0 => xs
  | k + 1 => rdRest (bR xs k)
def bS (xs : List Int) (sh : Bool) : Nat → Bool
  | 0 => sh
  | k + 1 => rdSh (bR xs k) (bS xs sh k)
def bL (xs : List Int) : Nat → List Rd
  | 0 => []
  | k + 1 => bL xs k ++ [rd1 (bR xs k)]
theorem bL_len (xs : List Int) : ∀ k, (bL xs k).length = k
  | 0 => rfl
  | k + 1 => by unfold bL; rw [List.length_append, bL_len xs k]; rfl
theorem bR_range {xs : List Int} (h : ∀ x ∈ xs, 0 ≤ x ∧ x ≤ 255) : ∀ k, ∀ x ∈ bR xs k, 0 ≤ x ∧ x ≤ 255
  | 0 => h
  | k + 1 => tkR_range (tkR_range (tkR_range (bR_range h k)))
theorem bR_len (xs : List Int) : ∀ k, (bR xs k).length ≤ xs.length
  | 0 => Nat.le_refl _
  | k + 1 => Nat.le_trans (Nat.le_trans (tkR_len _ _) (Nat.le_trans (tkR_len _ _) (tkR_len _ _))) (bR_len xs k)
theorem own_kept {w w' : World} {B p : Nat} {v : Value} {ms : List Rd} (h : OwnR w B v ms) (hg : w.grownBy w' (some p)) (hp : p < B) : OwnR w' B v ms :=
  h.kept fun g hv => hg.block g (h.lt g hv).2 (by have := (h.lt g hv).1; simp; omega)
theorem own_ne {w : World} {B x : Nat} {v : Value} {ms : List Rd} {cs : Array Value} (h : OwnR w B v ms) (hx : w.heap[x]? = some (.cells cs 121 (0, 0))) : some x ≠ v.ownBlock := by
  intro e
  obtain ⟨_, h | ⟨g', cap', cur, he, _, hgg, _⟩⟩ := h
  · rw [h.1] at e; simp [Value.ownBlock] at e
  · rw [he] at e
    simp [Value.ownBlock] at e
    subst e
    rw [hx] at hgg
    simp at hgg

/-- While a batch is taken: its box x, the answer's box, the readings so far, the reader. -/
structure Tb (w w' : World) (p B x : Nat) (v : Value) (ms : List Rd) (rs : List Int) (sb : Bool) : Prop where
  hx : w'.heap[x]? = some (.cells #[.bool false, .int .i64 0, .int .i64 0, .int .i64 0, .int .i64 0, .string ⟨#[]⟩, v] 121 (0, 0))
  ha : w'.heap[w.heap.size]? = some (.cells #[.bool false, .int .i64 0, .int .i64 0, .int .i64 0, .int .i64 0, .string ⟨#[]⟩, .slice none 0 0] 121 (0, 0))
  own : OwnR w' (x + 1) v ms
  rd : Rdr B w' p rs sb
  gr : w.grownBy w' (some p)
  lt : w.heap.size < x ∧ p < w.heap.size ∧ B ≤ p
theorem Tb.drew {w w' : World} {p B x : Nat} {v : Value} {ms : List Rd} {rs : List Int} {sb : Bool} (h : Tb w w' p B x v ms rs sb) : Tb w w'.drew p B x v ms rs sb :=
  ⟨h.hx, h.ha, h.own, h.rd, ⟨h.gr.os, h.gr.tape, h.gr.output, h.gr.size, h.gr.block⟩, h.lt⟩
theorem Tb.grown {w w' w2 : World} {p B x : Nat} {v : Value} {ms : List Rd} {rs rs2 : List Int} {sb sb2 : Bool} (h : Tb w w' p B x v ms rs sb) (hg : w'.grownBy w2 (some p)) (hr : Rdr B w2 p rs2 sb2) : Tb w w2 p B x v ms rs2 sb2 :=
  ⟨blk_kept h.hx hg (by have := h.lt; omega), blk_kept h.ha hg (by have := h.lt; omega), own_kept h.own hg (by have := h.lt; omega), hr, grown_trans h.gr hg, h.lt⟩
theorem Tb.alloc {w w' : World} {p B x : Nat} {v : Value} {ms : List Rd} {rs : List Int} {sb : Bool} (h : Tb w w' p B x v ms rs sb) (o : Obj) : Tb w (w'.alloc o) p B x v ms rs sb :=
  h.grown (grown_alloc (grown_refl _ _) _) (rdr_alloc h.rd h.lt.2.2 _)
theorem Tb.c6 {w w' : World} {p B x : Nat} {v : Value} {ms : List Rd} {rs : List Int} {sb : Bool} (h : Tb w w' p B x v ms rs sb) : w'.cell? ⟨x, 6, none⟩ = some v := (blk_cell h.hx 6 (x := v) rfl).1
/-- Behind the append, ahead of the store. -/
structure Td (w w' : World) (p B x : Nat) (v v' : Value) (ms : List Rd) (rs : List Int) (sb : Bool) : Prop where
  hx : w'.heap[x]? = some (.cells #[.bool false, .int .i64 0, .int .i64 0, .int .i64 0, .int .i64 0, .string ⟨#[]⟩, v] 121 (0, 0))
  ha : w'.heap[w.heap.size]? = some (.cells #[.bool false, .int .i64 0, .int .i64 0, .int .i64 0, .int .i64 0, .string ⟨#[]⟩, .slice none 0 0] 121 (0, 0))
  own : OwnR w' (x + 1) v' ms
  rd : Rdr B w' p rs sb
  gr : w.grownBy w' (some p)
  lt : w.heap.size < x ∧ p < w.heap.size ∧ B ≤ p
theorem Td.c6 {w w' : World} {p B x : Nat} {v v' : Value} {ms : List Rd} {rs : List Int} {sb : Bool} (h : Td w w' p B x v v' ms rs sb) : w'.cell? ⟨x, 6, none⟩ = some v ∧ w'.frozen? ⟨x, 6, none⟩ = false := blk_cell h.hx 6 (x := v) rfl
theorem Td.set {w w' : World} {p B x : Nat} {v v' : Value} {ms : List Rd} {rs : List Int} {sb : Bool} (h : Td w w' p B x v v' ms rs sb) : Tb w (w'.setCell ⟨x, 6, none⟩ v') p B x v' ms rs sb :=
  ⟨blk_set h.hx 6 v', (blk_far (by have := h.lt; omega) 6 v').trans h.ha, h.own.kept (fun g hg => blk_far (by have := (h.own.lt g hg).1; omega) 6 v'), rdr_set h.rd (by have := h.lt; omega) (by have := h.lt; omega) 6 v', grown_new h.gr (by have := h.lt; omega) 6 v', h.lt⟩
theorem step_tb {P : Program} {ops : Array Oper} {o : Oper} {a : Act} {K : Act → World → Prop} {Q : Exit → Act → World → Prop} {E : Prop} {i : TypeInfo} (hgd : o.guard = none) (s z : Operand) (t : TypeId) (ho : o.op = .call { callee := .builtin .append, args := #[s, z], argTypes := #[t, t] }) (ht : P.underlying t = some (.slice 157)) (hi : P.info? 157 = some i) (hz : i.zero = some (.agg #[.int .i64 0, .int .i64 0, .string ⟨#[]⟩]))
    (hsize : i.size = 3) (hby : i.bytes = 32) (W w : World) (p B x : Nat) (v : Value) (ms : List Rd) (rs : List Int) (sb : Bool) (m : Rd) (hs : a.eval s = v) (gx : Nat) (hx : a.eval z = .slice (some ⟨gx, 0, none⟩) 1 1) (hbx : W.heap[gx]? = some (.cells #[.int .i64 m.f, .int .i64 m.x, .string m.m] 157 (0, 0)))
    (htb : Tb w W p B x v ms rs sb) (hlen : ms.length ≤ 1000000)
    (h : ∀ v' w', Td w w' p B x v v' (ms ++ [m]) rs sb → K (a.put o.dst v') w') : if Region.wanted o (yielded ops a.tmps) = true then Oper.wp P o a W K Q else E := by
  have hw : Region.wanted o (yielded ops a.tmps) = true := by simp [Region.wanted, hgd]
  rw [if_pos hw]
  have hxl := (Array.getElem?_eq_some_iff.1 htb.hx).1
  obtain ⟨v', w', hr, h2, h3, _, h5⟩ := run_append_own_at (P := P) W (x + 1) t o.type 157 i _ 3 32 ht hi hz hsize hby rfl (by decide) v ms.length _ htb.own ⟨gx, 0, none⟩ 1 1 (cl m) rfl (by
    intro j u hj
    have e2 : (⟨gx, 0, none⟩ : Addr).add j = ⟨gx, j, none⟩ := by unfold Addr.add; split <;> simp_all
    rw [e2, Joins.cell_of_block hbx, ← hj]
    simp [cl]) (cl_one m) (by unfold maxLen; omega) (by omega) (by omega)
  have far : ∀ k, k ≤ x → k < W.heap.size → w'.heap[k]? = W.heap[k]? := fun k hk hkl => h3.block k hkl (fun e => by have := (htb.own.lt k e.symm).1; omega)
  refine wp_app ho hs hx hr (h v' w' ⟨(far x (Nat.le_refl _) hxl).trans htb.hx, (far _ (by have := htb.lt; omega) (by have := htb.lt; omega)).trans htb.ha, by unfold OwnR; rw [List.flatMap_append, List.length_append]; simpa using h2, htb.rd.kept (far p (by have := htb.lt; omega) htb.rd.lt) (fun k hk => far k (by have := htb.lt; omega) (by have := htb.lt; have := htb.rd.lt; omega)), ⟨h3.os.trans htb.gr.os, h3.tape.trans htb.gr.tape, h3.output.trans htb.gr.output, Nat.le_trans htb.gr.size h3.size, fun k hk hn => (far k (by have := htb.lt; omega) (Nat.lt_of_lt_of_le hk htb.gr.size)).trans (htb.gr.block k hk hn)⟩, htb.lt⟩)
theorem ret_bt {a b : Value} (h : a = b) : Ending.returned a = .returned b := by rw [h]
set_option maxRecDepth 100000 in
set_option maxHeartbeats 3200000 in
theorem takeBatch_no (p B : Nat) (xs : List Int) (sh : Bool) (w : World) (h : Rdr B w p xs sh) (hB : B ≤ p) (hx : xs.length ≤ 70000) (hr : ∀ x ∈ xs, 0 ≤ x ∧ x ≤ 255) (h0 : beN (tkB 1 xs) = 0) :
    Calls Tryz.prog 127 #[.pointer (some ⟨p, 0, none⟩)] w fun e w' => e = .returned (batV true 0 0 0 0 ⟨#[]⟩ (.slice none 0 0)) ∧ Rdr B w' p (tkR 1 xs) (tkS 1 xs sh) ∧ w.grownBy w' (some p) := by
  have hp := h.lt
  have HN := number_any 1 p B xs sh (w.alloc (.cells #[.bool false, .int .i64 0, .int .i64 0, .int .i64 0, .int .i64 0, .string ⟨#[]⟩, .slice none 0 0] 121)) (rdr_alloc h hB _) hB (by decide) hx hr
  rw [h0] at HN
  have G0 : Hid (w.grownBy (w.alloc (.cells #[.bool false, .int .i64 0, .int .i64 0, .int .i64 0, .int .i64 0, .string ⟨#[]⟩, .slice none 0 0] 121)) (some p)) := grown_alloc (grown_refl _ _) _
  clear h
  go_enter Tryz.func127, Tryz.ntmps127
  go_wp2_with fail
  refine HN.mono ?_
  rintro e w1 ⟨rfl, r1, g1⟩
  have A1 : Hid (w1.heap[w.heap.size]? = some (.cells #[.bool false, .int .i64 0, .int .i64 0, .int .i64 0, .int .i64 0, .string ⟨#[]⟩, .slice none 0 0] 121 (0, 0))) := blk_kept (heap_alloc_new w _) g1 (by omega)
  have R1 : Hid (Rdr B w1 p (tkR 1 xs) (tkS 1 xs sh) ∧ w.grownBy w1 (some p)) := ⟨r1, grown_trans G0.out g1⟩
  clear r1 g1 G0 HN
  obtain ⟨a0, b0⟩ := blk_cell A1.out 0 (x := .bool false) rfl
  obtain ⟨a1, b1⟩ := blk_cell A1.out 1 (x := .int .i64 0) rfl
  obtain ⟨a2, b2⟩ := blk_cell A1.out 2 (x := .int .i64 0) rfl
  obtain ⟨a3, b3⟩ := blk_cell A1.out 3 (x := .int .i64 0) rfl
  obtain ⟨a4, b4⟩ := blk_cell A1.out 4 (x := .int .i64 0) rfl
  obtain ⟨a5, b5⟩ := blk_cell A1.out 5 (x := .string ⟨#[]⟩) rfl
  obtain ⟨a6, b6⟩ := blk_cell A1.out 6 (x := .slice none 0 0) rfl
  have AF : (((((((w1.setCell ⟨w.heap.size, 0, none⟩ (.bool true)).setCell ⟨w.heap.size, 1, none⟩ (.int .i64 0)).setCell ⟨w.heap.size, 2, none⟩ (.int .i64 0)).setCell ⟨w.heap.size, 3, none⟩ (.int .i64 0)).setCell ⟨w.heap.size, 4, none⟩ (.int .i64 0)).setCell ⟨w.heap.size, 5, none⟩ (.string ⟨#[]⟩)).setCell ⟨w.heap.size, 6, none⟩ (.slice none 0 0)).heap[w.heap.size]? = some (.cells #[.bool true, .int .i64 0, .int .i64 0, .int .i64 0, .int .i64 0, .string ⟨#[]⟩, .slice none 0 0] 121 (0, 0)) := (blk_set (blk_set (blk_set (blk_set (blk_set (blk_set (blk_set A1.out 0 (.bool true)) 1 (.int .i64 0)) 2 (.int .i64 0)) 3 (.int .i64 0)) 4 (.int .i64 0)) 5 (.string ⟨#[]⟩)) 6 (.slice none 0 0))
  have RF : Rdr B (((((((w1.setCell ⟨w.heap.size, 0, none⟩ (.bool true)).setCell ⟨w.heap.size, 1, none⟩ (.int .i64 0)).setCell ⟨w.heap.size, 2, none⟩ (.int .i64 0)).setCell ⟨w.heap.size, 3, none⟩ (.int .i64 0)).setCell ⟨w.heap.size, 4, none⟩ (.int .i64 0)).setCell ⟨w.heap.size, 5, none⟩ (.string ⟨#[]⟩)).setCell ⟨w.heap.size, 6, none⟩ (.slice none 0 0)) p (tkR 1 xs) (tkS 1 xs sh) := (rdr_set (rdr_set (rdr_set (rdr_set (rdr_set (rdr_set (rdr_set R1.out.1 (by omega) (by omega) 0 (.bool true)) (by omega) (by omega) 1 (.int .i64 0)) (by omega) (by omega) 2 (.int .i64 0)) (by omega) (by omega) 3 (.int .i64 0)) (by omega) (by omega) 4 (.int .i64 0)) (by omega) (by omega) 5 (.string ⟨#[]⟩)) (by omega) (by omega) 6 (.slice none 0 0))
  have GF : w.grownBy (((((((w1.setCell ⟨w.heap.size, 0, none⟩ (.bool true)).setCell ⟨w.heap.size, 1, none⟩ (.int .i64 0)).setCell ⟨w.heap.size, 2, none⟩ (.int .i64 0)).setCell ⟨w.heap.size, 3, none⟩ (.int .i64 0)).setCell ⟨w.heap.size, 4, none⟩ (.int .i64 0)).setCell ⟨w.heap.size, 5, none⟩ (.string ⟨#[]⟩)).setCell ⟨w.heap.size, 6, none⟩ (.slice none 0 0)) (some p) := (grown_new (grown_new (grown_new (grown_new (grown_new (grown_new (grown_new R1.out.2 (Nat.le_refl _) 0 (.bool true)) (Nat.le_refl _) 1 (.int .i64 0)) (Nat.le_refl _) 2 (.int .i64 0)) (Nat.le_refl _) 3 (.int .i64 0)) (Nat.le_refl _) 4 (.int .i64 0)) (Nat.le_refl _) 5 (.string ⟨#[]⟩)) (Nat.le_refl _) 6 (.slice none 0 0))
  go_wp2_with fail
  generalize (((((((w1.setCell ⟨w.heap.size, 0, none⟩ (.bool true)).setCell ⟨w.heap.size, 1, none⟩ (.int .i64 0)).setCell ⟨w.heap.size, 2, none⟩ (.int .i64 0)).setCell ⟨w.heap.size, 3, none⟩ (.int .i64 0)).setCell ⟨w.heap.size, 4, none⟩ (.int .i64 0)).setCell ⟨w.heap.size, 5, none⟩ (.string ⟨#[]⟩)).setCell ⟨w.heap.size, 6, none⟩ (.slice none 0 0)) = wf at AF RF GF ⊢
  have d0 := (blk_cell AF 0 (x := .bool true) rfl).1
  have d1 := (blk_cell AF 1 (x := .int .i64 0) rfl).1
  have d2 := (blk_cell AF 2 (x := .int .i64 0) rfl).1
  have d3 := (blk_cell AF 3 (x := .int .i64 0) rfl).1
  have d4 := (blk_cell AF 4 (x := .int .i64 0) rfl).1
  have d5 := (blk_cell AF 5 (x := .string ⟨#[]⟩) rfl).1
  have d6 := (blk_cell AF 6 (x := .slice none 0 0) rfl).1
  refine bodyPost_ret (v := batV true 0 0 0 0 ⟨#[]⟩ (.slice none 0 0)) (by simp [batV, results, Tryz.results127, go_sem, d0, d1, d2, d3, d4, d5, d6]) rfl ⟨rfl, RF, GF⟩

set_option maxRecDepth 100000 in
set_option maxHeartbeats 3200000 in
theorem takeBatch_yes (p B n : Nat) (xs : List Int) (sh : Bool) (w : World) (h : Rdr B w p xs sh) (hB : B ≤ p) (hx : xs.length ≤ 70000) (hr : ∀ x ∈ xs, 0 ≤ x ∧ x ≤ 255) (h0 : beN (tkB 1 xs) = ((n + 1 : Nat) : Int)) (hn : n ≤ 255) :
    Calls Tryz.prog 127 #[.pointer (some ⟨p, 0, none⟩)] w fun e w' => ∃ v, e = .returned (batV false (rqC (bR (tkR 1 xs) n)) (rqS (bR (tkR 1 xs) n)) (rqK (bR (tkR 1 xs) n)) (rqL (bR (tkR 1 xs) n)) (rqN (bR (tkR 1 xs) n)) v) ∧ OwnR w' w.heap.size v (bL (tkR 1 xs) n) ∧ Rdr B w' p (rqRest (bR (tkR 1 xs) n)) (rqSh (bR (tkR 1 xs) n) (bS (tkR 1 xs) (tkS 1 xs sh) n)) ∧ w.grownBy w' (some p) := by
  have hp := h.lt
  have HN := number_any 1 p B xs sh (w.alloc (.cells #[.bool false, .int .i64 0, .int .i64 0, .int .i64 0, .int .i64 0, .string ⟨#[]⟩, .slice none 0 0] 121)) (rdr_alloc h hB _) hB (by decide) hx hr
  rw [h0] at HN
  have G0 : Hid (w.grownBy (w.alloc (.cells #[.bool false, .int .i64 0, .int .i64 0, .int .i64 0, .int .i64 0, .string ⟨#[]⟩, .slice none 0 0] 121)) (some p)) := grown_alloc (grown_refl _ _) _
  clear h
  obtain ⟨ys, HYS⟩ : ∃ ys, Hid (tkR 1 xs = ys) := ⟨_, rfl⟩
  obtain ⟨s0, HS0⟩ : ∃ s0, Hid (tkS 1 xs sh = s0) := ⟨_, rfl⟩
  have HRY : Hid (∀ k, ∀ x ∈ bR ys k, 0 ≤ x ∧ x ≤ 255) := by rw [← HYS.out]; exact fun k => bR_range (tkR_range hr) k
  have HXY : Hid (∀ k, (bR ys k).length ≤ 70000) := by rw [← HYS.out]; exact fun k => Nat.le_trans (bR_len _ k) (Nat.le_trans (tkR_len _ _) hx)
  rw [HYS.out, HS0.out] at HN
  rw [HYS.out, HS0.out]
  go_enter Tryz.func127, Tryz.ntmps127
  go_wp2_with fail
  refine HN.mono ?_
  rintro e w1 ⟨rfl, r1, g1⟩
  have A1 : Hid (w1.heap[w.heap.size]? = some (.cells #[.bool false, .int .i64 0, .int .i64 0, .int .i64 0, .int .i64 0, .string ⟨#[]⟩, .slice none 0 0] 121 (0, 0))) := blk_kept (heap_alloc_new w _) g1 (by omega)
  have R1 : Hid (Rdr B w1 p ys s0 ∧ w.grownBy w1 (some p)) := ⟨r1, grown_trans G0.out g1⟩
  clear r1 g1 G0 HN
  have hz : ¬ ((n + 1 : Nat) : Int) = 0 := by omega
  obtain ⟨i0, hi0, hz0, hz1, hz2⟩ := info_parts info_r
  have hwl : w.heap.size < w1.heap.size := (Array.getElem?_eq_some_iff.1 A1.out).1
  have T0 : Hid (Tb w (w1.alloc (.cells #[.bool false, .int .i64 0, .int .i64 0, .int .i64 0, .int .i64 0, .string ⟨#[]⟩, .slice none 0 0] 121)) p B w1.heap.size (.slice none 0 0) (bL ys 0) (bR ys 0) (bS ys s0 0)) := ⟨heap_alloc_new w1 _, (Below.heap_alloc _ _ _ hwl).trans A1.out, OwnR.nil _ _, rdr_alloc R1.out.1 hB _, grown_alloc R1.out.2 _, ⟨hwl, hp, hB⟩⟩
  clear A1 R1 hr hx h0
  have hz3 : ((n : Int) + 1 == 0) = false := by rw [beq_eq_false_iff_ne]; omega
  go_upto_region 6 with fail
  generalize w1.alloc (.cells #[.bool false, .int .i64 0, .int .i64 0, .int .i64 0, .int .i64 0, .string ⟨#[]⟩, .slice none 0 0] 121) = w2 at T0 ⊢
  generalize w1.heap.size = x at T0 hwl ⊢
  go_loopw [12] (fun i wr => ∃ (k : Nat) (ap : Option Addr) (cp : Nat), k ≤ n ∧ i = .int .i64 (k : Int) ∧ Hid (Tb w wr p B x (.slice ap k cp) (bL ys k) (bR ys k) (bS ys s0 k))) (fun i _ => n - (intOf i).toNat)
  case atStart => exact ⟨0, none, 0, by omega, rfl, T0⟩
  case round =>
    clear T0
    obtain ⟨k, ap, cp, hk, rfl, HT⟩ := hrel
    by_cases hlt : k < n
    · have HTR : Hid (∀ W, Tb w W p B x (.slice ap k cp) (bL ys k) (bR ys k) (bS ys s0 k) → Calls Tryz.prog 143 #[.pointer (some ⟨p, 0, none⟩)] W fun e w' => e = .returned (.agg #[.int .i64 (rd1 (bR ys k)).f, .int .i64 (rd1 (bR ys k)).x, .string (rd1 (bR ys k)).m]) ∧ Tb w w' p B x (.slice ap k cp) (bL ys k) (bR ys (k + 1)) (bS ys s0 (k + 1))) := fun W hW => by
        refine (takeReading_any p B (bR ys k) (bS ys s0 k) W hW.rd hB (HXY.out k) (HRY.out k)).mono ?_
        rintro e w' ⟨rfl, r, g⟩
        exact ⟨rfl, hW.grown g r⟩
      have HLN : Hid ((bL ys k).length ≤ 1000000) := by show _ ≤ _; rw [bL_len]; omega
      have HEQ : Hid (bL ys (k + 1) = bL ys k ++ [rd1 (bR ys k)]) := rfl
      have HL5 : Hid ((bL ys (k + 1)).length = k + 1) := bL_len _ _
      obtain ⟨m, HM⟩ : ∃ m, Hid (rd1 (bR ys k) = m) := ⟨_, rfl⟩
      rw [HM.out] at HTR HEQ
      have t0 := HT.out
      have q6 := t0.c6
      clear HT HM
      obtain ⟨ms2, HM2⟩ : ∃ ms2, Hid (bL ys (k + 1) = ms2) := ⟨_, rfl⟩
      obtain ⟨ms, HM1⟩ : ∃ ms, Hid (bL ys k = ms) := ⟨_, rfl⟩
      have HLM : Hid (ms.length = k) := by show _ = _; rw [← HM1.out]; exact bL_len _ _
      rw [HM2.out] at HEQ HL5
      rw [HM1.out] at HTR HLN HEQ t0
      go_upto_region 7 with fail
      go_region_law
        (first
          | (go_simp; go_at_call 143; (with_reducible refine (HTR.out _ (by first | assumption | exact Tb.drew (by assumption))).mono ?_); rintro e wn ⟨rfl, tn⟩; have qn := tn.c6; have qa := fun o => Tb.c6 (tn.alloc o); have qd := Tb.c6 tn.drew; try go_simp)
          | (refine step_tb (by rfl) _ _ 119 (by rfl) Tryz.underlying119 hi0 hz0 hz1 hz2 _ w p B x _ ms _ _ m (by rfl) _ (by rfl) (by first | exact heap_alloc_new _ _ | exact (heap_alloc_new _ _ : (World.alloc _ _).drew.heap[_]? = _)) (by first | assumption | exact Tb.drew (by assumption) | exact Tb.alloc (by assumption) _ | exact Tb.drew (Tb.alloc (by assumption) _) | exact Tb.alloc (Tb.drew (by assumption)) _) HLN.out ?_; intro v5 w5 t5; obtain ⟨a5, cap5, rfl⟩ := RowG.slice (OwnR.row t5.own); obtain ⟨s5, f5⟩ := t5.c6; try go_simp))
      all_goals
        rw [← HEQ.out, HL5.out] at t5
        rw [HLM.out]
        have T5 : Hid (Tb w (w5.setCell ⟨x, 6, none⟩ (.slice a5 (k + 1) cap5)) p B x (.slice a5 (k + 1) cap5) ms2 (bR ys (k + 1)) (bS ys s0 (k + 1))) := t5.set
        clear t5 t0 q6
        go_wp2_with fail
        exact ⟨⟨k + 1, a5, cap5, by omega, by go_num, by rw [HM2.out]; exact T5⟩, by simp [intOf]; omega⟩
    · obtain rfl : k = n := by omega
      have HTQ := takeRequest_any p B (bR ys k) (bS ys s0 k) wr HT.out.rd hB (HXY.out k) (HRY.out k)
      clear HRY HXY
      obtain ⟨zs, HZS⟩ : ∃ zs, Hid (bR ys k = zs) := ⟨_, rfl⟩
      obtain ⟨sk, HSK⟩ : ∃ sk, Hid (bS ys s0 k = sk) := ⟨_, rfl⟩
      obtain ⟨ms, HMS⟩ : ∃ ms, Hid (bL ys k = ms) := ⟨_, rfl⟩
      rw [HZS.out, HSK.out] at HTQ
      rw [HZS.out, HSK.out, HMS.out] at HT
      go_wp2_with fail
      refine HTQ.mono ?_
      rintro e w8 ⟨rfl, r8, g8⟩
      have t8 := HT.out.grown g8 r8
      clear HT r8 g8 HTQ
      have T8 : Hid (Tb w w8 p B x (.slice ap k cp) ms (rqRest zs) (rqSh zs sk)) := t8
      have hxs := t8.lt
      clear t8
      unfold reqV
      obtain ⟨c1, f1⟩ := blk_cell T8.out.hx 1 (x := .int .i64 0) rfl
      obtain ⟨c2, f2⟩ := blk_cell T8.out.hx 2 (x := .int .i64 0) rfl
      obtain ⟨c3, f3⟩ := blk_cell T8.out.hx 3 (x := .int .i64 0) rfl
      obtain ⟨c4, f4⟩ := blk_cell T8.out.hx 4 (x := .int .i64 0) rfl
      obtain ⟨c5, f5⟩ := blk_cell T8.out.hx 5 (x := .string ⟨#[]⟩) rfl
      have X9 : Hid ((((((w8.setCell ⟨x, 1, none⟩ (.int .i64 (rqC zs))).setCell ⟨x, 2, none⟩ (.int .i64 (rqS zs))).setCell ⟨x, 3, none⟩ (.int .i64 (rqK zs))).setCell ⟨x, 4, none⟩ (.int .i64 (rqL zs))).setCell ⟨x, 5, none⟩ (.string (rqN zs))).heap[x]? = some (.cells #[.bool false, .int .i64 (rqC zs), .int .i64 (rqS zs), .int .i64 (rqK zs), .int .i64 (rqL zs), .string (rqN zs), .slice ap k cp] 121 (0, 0)) ∧ (((((w8.setCell ⟨x, 1, none⟩ (.int .i64 (rqC zs))).setCell ⟨x, 2, none⟩ (.int .i64 (rqS zs))).setCell ⟨x, 3, none⟩ (.int .i64 (rqK zs))).setCell ⟨x, 4, none⟩ (.int .i64 (rqL zs))).setCell ⟨x, 5, none⟩ (.string (rqN zs))).heap[w.heap.size]? = some (.cells #[.bool false, .int .i64 0, .int .i64 0, .int .i64 0, .int .i64 0, .string ⟨#[]⟩, .slice none 0 0] 121 (0, 0)) ∧ OwnR (((((w8.setCell ⟨x, 1, none⟩ (.int .i64 (rqC zs))).setCell ⟨x, 2, none⟩ (.int .i64 (rqS zs))).setCell ⟨x, 3, none⟩ (.int .i64 (rqK zs))).setCell ⟨x, 4, none⟩ (.int .i64 (rqL zs))).setCell ⟨x, 5, none⟩ (.string (rqN zs))) (x + 1) (.slice ap k cp) ms ∧ Rdr B (((((w8.setCell ⟨x, 1, none⟩ (.int .i64 (rqC zs))).setCell ⟨x, 2, none⟩ (.int .i64 (rqS zs))).setCell ⟨x, 3, none⟩ (.int .i64 (rqK zs))).setCell ⟨x, 4, none⟩ (.int .i64 (rqL zs))).setCell ⟨x, 5, none⟩ (.string (rqN zs))) p (rqRest zs) (rqSh zs sk) ∧ w.grownBy (((((w8.setCell ⟨x, 1, none⟩ (.int .i64 (rqC zs))).setCell ⟨x, 2, none⟩ (.int .i64 (rqS zs))).setCell ⟨x, 3, none⟩ (.int .i64 (rqK zs))).setCell ⟨x, 4, none⟩ (.int .i64 (rqL zs))).setCell ⟨x, 5, none⟩ (.string (rqN zs))) (some p)) := ⟨(blk_set (blk_set (blk_set (blk_set (blk_set T8.out.hx 1 (.int .i64 (rqC zs))) 2 (.int .i64 (rqS zs))) 3 (.int .i64 (rqK zs))) 4 (.int .i64 (rqL zs))) 5 (.string (rqN zs))), ((blk_far (by omega) 5 (.string (rqN zs))).trans ((blk_far (by omega) 4 (.int .i64 (rqL zs))).trans ((blk_far (by omega) 3 (.int .i64 (rqK zs))).trans ((blk_far (by omega) 2 (.int .i64 (rqS zs))).trans ((blk_far (by omega) 1 (.int .i64 (rqC zs))).trans T8.out.ha))))), T8.out.own.kept (fun g hg => by have := (T8.out.own.lt g hg).1; exact ((blk_far (by omega) 5 (.string (rqN zs))).trans ((blk_far (by omega) 4 (.int .i64 (rqL zs))).trans ((blk_far (by omega) 3 (.int .i64 (rqK zs))).trans ((blk_far (by omega) 2 (.int .i64 (rqS zs))).trans (blk_far (by omega) 1 (.int .i64 (rqC zs)))))))), (rdr_set (rdr_set (rdr_set (rdr_set (rdr_set T8.out.rd (by omega) (by omega) 1 (.int .i64 (rqC zs))) (by omega) (by omega) 2 (.int .i64 (rqS zs))) (by omega) (by omega) 3 (.int .i64 (rqK zs))) (by omega) (by omega) 4 (.int .i64 (rqL zs))) (by omega) (by omega) 5 (.string (rqN zs))), (grown_new (grown_new (grown_new (grown_new (grown_new T8.out.gr (by omega) 1 (.int .i64 (rqC zs))) (by omega) 2 (.int .i64 (rqS zs))) (by omega) 3 (.int .i64 (rqK zs))) (by omega) 4 (.int .i64 (rqL zs))) (by omega) 5 (.string (rqN zs)))⟩
      go_upto_region 10 with fail
      generalize (((((w8.setCell ⟨x, 1, none⟩ (.int .i64 (rqC zs))).setCell ⟨x, 2, none⟩ (.int .i64 (rqS zs))).setCell ⟨x, 3, none⟩ (.int .i64 (rqK zs))).setCell ⟨x, 4, none⟩ (.int .i64 (rqL zs))).setCell ⟨x, 5, none⟩ (.string (rqN zs))) = w9 at X9 ⊢
      clear c1 f1 c2 f2 c3 f3 c4 f4 c5 f5 T8
      have x0 := (blk_cell X9.out.1 0 (x := .bool false) rfl).1
      have x1 := (blk_cell X9.out.1 1 (x := .int .i64 (rqC zs)) rfl).1
      have x2 := (blk_cell X9.out.1 2 (x := .int .i64 (rqS zs)) rfl).1
      have x3 := (blk_cell X9.out.1 3 (x := .int .i64 (rqK zs)) rfl).1
      have x4 := (blk_cell X9.out.1 4 (x := .int .i64 (rqL zs)) rfl).1
      have x5 := (blk_cell X9.out.1 5 (x := .string (rqN zs)) rfl).1
      have x6 := (blk_cell X9.out.1 6 (x := .slice ap k cp) rfl).1
      obtain ⟨y0, z0⟩ := blk_cell X9.out.2.1 0 (x := .bool false) rfl
      obtain ⟨y1, z1⟩ := blk_cell X9.out.2.1 1 (x := .int .i64 0) rfl
      obtain ⟨y2, z2⟩ := blk_cell X9.out.2.1 2 (x := .int .i64 0) rfl
      obtain ⟨y3, z3⟩ := blk_cell X9.out.2.1 3 (x := .int .i64 0) rfl
      obtain ⟨y4, z4⟩ := blk_cell X9.out.2.1 4 (x := .int .i64 0) rfl
      obtain ⟨y5, z5⟩ := blk_cell X9.out.2.1 5 (x := .string ⟨#[]⟩) rfl
      obtain ⟨y6, z6⟩ := blk_cell X9.out.2.1 6 (x := .slice none 0 0) rfl
      have AF : (((((((w9.setCell ⟨w.heap.size, 0, none⟩ (.bool false)).setCell ⟨w.heap.size, 1, none⟩ (.int .i64 (rqC zs))).setCell ⟨w.heap.size, 2, none⟩ (.int .i64 (rqS zs))).setCell ⟨w.heap.size, 3, none⟩ (.int .i64 (rqK zs))).setCell ⟨w.heap.size, 4, none⟩ (.int .i64 (rqL zs))).setCell ⟨w.heap.size, 5, none⟩ (.string (rqN zs))).setCell ⟨w.heap.size, 6, none⟩ (.slice ap k cp)).heap[w.heap.size]? = some (.cells #[.bool false, .int .i64 (rqC zs), .int .i64 (rqS zs), .int .i64 (rqK zs), .int .i64 (rqL zs), .string (rqN zs), .slice ap k cp] 121 (0, 0)) := (blk_set (blk_set (blk_set (blk_set (blk_set (blk_set (blk_set X9.out.2.1 0 (.bool false)) 1 (.int .i64 (rqC zs))) 2 (.int .i64 (rqS zs))) 3 (.int .i64 (rqK zs))) 4 (.int .i64 (rqL zs))) 5 (.string (rqN zs))) 6 (.slice ap k cp))
      have OF : Hid (OwnR (((((((w9.setCell ⟨w.heap.size, 0, none⟩ (.bool false)).setCell ⟨w.heap.size, 1, none⟩ (.int .i64 (rqC zs))).setCell ⟨w.heap.size, 2, none⟩ (.int .i64 (rqS zs))).setCell ⟨w.heap.size, 3, none⟩ (.int .i64 (rqK zs))).setCell ⟨w.heap.size, 4, none⟩ (.int .i64 (rqL zs))).setCell ⟨w.heap.size, 5, none⟩ (.string (rqN zs))).setCell ⟨w.heap.size, 6, none⟩ (.slice ap k cp)) w.heap.size (.slice ap k cp) ms ∧ Rdr B (((((((w9.setCell ⟨w.heap.size, 0, none⟩ (.bool false)).setCell ⟨w.heap.size, 1, none⟩ (.int .i64 (rqC zs))).setCell ⟨w.heap.size, 2, none⟩ (.int .i64 (rqS zs))).setCell ⟨w.heap.size, 3, none⟩ (.int .i64 (rqK zs))).setCell ⟨w.heap.size, 4, none⟩ (.int .i64 (rqL zs))).setCell ⟨w.heap.size, 5, none⟩ (.string (rqN zs))).setCell ⟨w.heap.size, 6, none⟩ (.slice ap k cp)) p (rqRest zs) (rqSh zs sk) ∧ w.grownBy (((((((w9.setCell ⟨w.heap.size, 0, none⟩ (.bool false)).setCell ⟨w.heap.size, 1, none⟩ (.int .i64 (rqC zs))).setCell ⟨w.heap.size, 2, none⟩ (.int .i64 (rqS zs))).setCell ⟨w.heap.size, 3, none⟩ (.int .i64 (rqK zs))).setCell ⟨w.heap.size, 4, none⟩ (.int .i64 (rqL zs))).setCell ⟨w.heap.size, 5, none⟩ (.string (rqN zs))).setCell ⟨w.heap.size, 6, none⟩ (.slice ap k cp)) (some p)) := ⟨(X9.out.2.2.1.mono (by omega)).kept (fun g hg => by have := (X9.out.2.2.1.lt g hg).1; exact ((blk_far (by omega) 6 (.slice ap k cp)).trans ((blk_far (by omega) 5 (.string (rqN zs))).trans ((blk_far (by omega) 4 (.int .i64 (rqL zs))).trans ((blk_far (by omega) 3 (.int .i64 (rqK zs))).trans ((blk_far (by omega) 2 (.int .i64 (rqS zs))).trans ((blk_far (by omega) 1 (.int .i64 (rqC zs))).trans (blk_far (by omega) 0 (.bool false))))))))), (rdr_set (rdr_set (rdr_set (rdr_set (rdr_set (rdr_set (rdr_set X9.out.2.2.2.1 (by omega) (by omega) 0 (.bool false)) (by omega) (by omega) 1 (.int .i64 (rqC zs))) (by omega) (by omega) 2 (.int .i64 (rqS zs))) (by omega) (by omega) 3 (.int .i64 (rqK zs))) (by omega) (by omega) 4 (.int .i64 (rqL zs))) (by omega) (by omega) 5 (.string (rqN zs))) (by omega) (by omega) 6 (.slice ap k cp)), (grown_new (grown_new (grown_new (grown_new (grown_new (grown_new (grown_new X9.out.2.2.2.2 (by omega) 0 (.bool false)) (by omega) 1 (.int .i64 (rqC zs))) (by omega) 2 (.int .i64 (rqS zs))) (by omega) 3 (.int .i64 (rqK zs))) (by omega) 4 (.int .i64 (rqL zs))) (by omega) 5 (.string (rqN zs))) (by omega) 6 (.slice ap k cp))⟩
      go_wp2_with fail
      generalize (((((((w9.setCell ⟨w.heap.size, 0, none⟩ (.bool false)).setCell ⟨w.heap.size, 1, none⟩ (.int .i64 (rqC zs))).setCell ⟨w.heap.size, 2, none⟩ (.int .i64 (rqS zs))).setCell ⟨w.heap.size, 3, none⟩ (.int .i64 (rqK zs))).setCell ⟨w.heap.size, 4, none⟩ (.int .i64 (rqL zs))).setCell ⟨w.heap.size, 5, none⟩ (.string (rqN zs))).setCell ⟨w.heap.size, 6, none⟩ (.slice ap k cp)) = wf at AF OF ⊢
      have d0 := (blk_cell AF 0 (x := .bool false) rfl).1
      have d1 := (blk_cell AF 1 (x := .int .i64 (rqC zs)) rfl).1
      have d2 := (blk_cell AF 2 (x := .int .i64 (rqS zs)) rfl).1
      have d3 := (blk_cell AF 3 (x := .int .i64 (rqK zs)) rfl).1
      have d4 := (blk_cell AF 4 (x := .int .i64 (rqL zs)) rfl).1
      have d5 := (blk_cell AF 5 (x := .string (rqN zs)) rfl).1
      have d6 := (blk_cell AF 6 (x := .slice ap k cp) rfl).1
      exact bodyPost_ret (v := batV false (rqC zs) (rqS zs) (rqK zs) (rqL zs) (rqN zs) (.slice ap k cp)) (by simp [batV, results, Tryz.results127, go_sem, d0, d1, d2, d3, d4, d5, d6]) rfl ⟨_, by rw [HZS.out], by rw [HMS.out]; exact OF.out.1, by rw [HZS.out, HSK.out]; exact OF.out.2.1, OF.out.2.2⟩
end Go.Proofs.YtkfiahemgdppfaaGreatDoor.Tkb

/- Blocks; texts in a slice: read, gathered. -/
namespace Go.Proofs.YtkfiahemgdppfaaGreatDoor.Tx
open Go.RowKit Go.Proofs.YtkfiahemgdppfaaGreatDoor.Sl Go.Proofs.YtkfiahemgdppfaaGreatDoor.By Go.Proofs.YtkfiahemgdppfaaGreatDoor.Ap

theorem val_eq {k : IntKind} {a b : Int} (h : a = b) : Value.int k a = .int k b := by rw [h]
theorem str_eq {a b : ByteArray} (h : a = b) : Value.string a = .string b := by rw [h]
theorem ret_str {a b : ByteArray} (h : a = b) : Ending.returned (.string a) = .returned (.string b) := by rw [h]
theorem size_new (w : World) (o : Obj) : (w.alloc o).heap.size = w.heap.size + 1 := by simp
theorem blk_cell {w : World} {b : Nat} {cs : Array Value} {t : TypeId} (h : w.heap[b]? = some (.cells cs t (0, 0))) (i : Nat) {x : Value} (hx : cs[i]? = some x) : w.cell? ⟨b, i, none⟩ = some x ∧ w.frozen? ⟨b, i, none⟩ = false := by
  refine ⟨(Joins.cell_of_block h i).trans hx, ?_⟩
  simp [World.frozen?, h]
theorem blk_set {w : World} {b : Nat} {cs : Array Value} {t : TypeId} (h : w.heap[b]? = some (.cells cs t (0, 0))) (i : Nat) (x : Value) : (w.setCell ⟨b, i, none⟩ x).heap[b]? = some (.cells (cs.setIfInBounds i x) t (0, 0)) := Joins.block_setCell (i := i) h x
theorem blk_far {w : World} {b k : Nat} (hk : k ≠ b) (i : Nat) (x : Value) : (w.setCell ⟨b, i, none⟩ x).heap[k]? = w.heap[k]? := Below.heap_setCell w ⟨b, i, none⟩ x k hk
theorem blk_new (w : World) (cs : Array Value) (t : TypeId) : (w.alloc (.cells cs t)).heap[w.heap.size]? = some (.cells cs t (0, 0)) := heap_alloc_new w _
theorem bel_new (w : World) (o : Obj) : Below w.heap.size w (w.alloc o) := (Below.refl _ _).alloc (Nat.le_refl _) _

def tnth (ts : List ByteArray) (i : Nat) : ByteArray := ts.getD i ⟨#[]⟩
/-- The slice v holds the texts ts. -/
def RowT (w : World) (v : Value) (ts : List ByteArray) : Prop :=
  ∃ a cap, v = .slice a ts.length cap ∧ (ts = [] ∨ ∃ b off, a = some ⟨b, off, none⟩ ∧ ts.length ≤ cap ∧ b < w.heap.size ∧ ∀ i, i < ts.length → w.cell? ⟨b, off + i, none⟩ = some (.string (tnth ts i)))
theorem RowT.below {w w' : World} {v : Value} {ts : List ByteArray} (h : RowT w v ts) (hb : Below w.heap.size w w') : RowT w' v ts := by
  obtain ⟨a, cap, rfl, h⟩ := h
  refine ⟨a, cap, rfl, ?_⟩
  rcases h with h | ⟨b, off, rfl, hc, hlt, h⟩
  · exact .inl h
  · exact .inr ⟨b, off, rfl, hc, Nat.lt_of_lt_of_le hlt hb.size, fun i hi => (hb.cell (p := ⟨b, off + i, none⟩) hlt).trans (h i hi)⟩
theorem tnth_at {ts : List ByteArray} {i : Nat} (h : i < ts.length) : ts[i]? = some (tnth ts i) := by
  unfold tnth; rw [List.getD_eq_getElem?_getD, List.getElem?_eq_getElem h]; rfl
theorem tnth_mem {ts : List ByteArray} {i : Nat} (h : i < ts.length) : tnth ts i ∈ ts := List.mem_of_getElem? (tnth_at h)
theorem tnth_append_left {xs ys : List ByteArray} {i : Nat} (h : i < xs.length) : tnth (xs ++ ys) i = tnth xs i := by
  unfold tnth; rw [List.getD_eq_getElem?_getD, List.getD_eq_getElem?_getD, List.getElem?_append_left h]
/-- A slice of texts that was written out. -/
theorem row_lit (w : World) (e : TypeId) (ts : List ByteArray) (cs : Array Value) (n : Nat) (hn : ts.length = n) (hcs : cs = (ts.map Value.string).toArray) : RowT (w.alloc (.cells cs e)) (.slice (some ⟨w.heap.size, 0, none⟩) n n) ts := by
  subst hn hcs
  refine ⟨_, _, rfl, .inr ⟨w.heap.size, 0, rfl, Nat.le_refl _, by simp, fun i hi => ?_⟩⟩
  rw [Nat.zero_add, Joins.cell_of_block (blk_new w _ e) i, List.getElem?_toArray, List.getElem?_map, tnth_at hi]
  rfl
theorem info9 : (Tryz.prog.info? 9).map (fun i => (i.zero, i.size, i.bytes)) = some (some (.string ⟨#[]⟩), 1, 16) := by kernel_rfl

/-- Texts in a slice of the call's own that may have room behind. -/
def OwnS (w : World) (B : Nat) (v : Value) (ts : List ByteArray) : Prop := w.ownsRow B 9 1 v ts.length (ts.map Value.string)
theorem OwnS.row {w : World} {B : Nat} {v : Value} {ts : List ByteArray} (h : OwnS w B v ts) : RowT w v ts := by
  obtain ⟨hl, h⟩ := h
  rcases h with ⟨rfl, h0⟩ | ⟨g, cap, cur, rfl, hB, hg, hc, _, hs, htk⟩
  · exact ⟨none, 0, by rw [h0], .inl (List.length_eq_zero_iff.1 h0)⟩
  · refine ⟨_, cap, rfl, .inr ⟨g, 0, rfl, hc, (Array.getElem?_eq_some_iff.1 hg).1, fun i hi => ?_⟩⟩
    rw [Nat.zero_add, Joins.cell_of_block hg i]
    have h1 : (cur.toList.take (ts.length * 1))[i]? = some (.string (tnth ts i)) := by
      rw [htk, List.getElem?_map, List.getElem?_eq_getElem hi]
      simp [tnth, List.getD_eq_getElem?_getD, List.getElem?_eq_getElem hi]
    rw [List.getElem?_take] at h1
    split at h1
    · simpa using h1
    · cases h1
theorem OwnS.below {w w' : World} {B : Nat} {v : Value} {ts : List ByteArray} (h : OwnS w B v ts) (hb : Below w.heap.size w w') : OwnS w' B v ts := by
  obtain ⟨hl, h⟩ := h
  refine ⟨hl, ?_⟩
  rcases h with h | ⟨g, cap, cur, hv, hB, hgb, h⟩
  · exact .inl h
  · exact .inr ⟨g, cap, cur, hv, hB, (hb.block g (Array.getElem?_eq_some_iff.1 hgb).1).trans hgb, h⟩
theorem OwnS.mono {w : World} {B B' : Nat} {v : Value} {ts : List ByteArray} (h : OwnS w B v ts) (hb : B' ≤ B) : OwnS w B' v ts := by
  obtain ⟨hl, h⟩ := h
  refine ⟨hl, ?_⟩
  rcases h with h | ⟨g, cap, cur, hv, hB, h⟩
  · exact .inl h
  · exact .inr ⟨g, cap, cur, hv, by omega, h⟩
theorem OwnS.nil (w : World) (B : Nat) : OwnS w B (.slice none 0 0) [] := World.ownsRow_nil _ _ _ _
theorem OwnS.made (w : World) (B : Nat) (hB : B ≤ w.heap.size) : OwnS (w.alloc (.cells #[] 9)) B (.slice (some ⟨w.heap.size, 0, none⟩) 0 0) [] :=
  World.ownsRow_made w #[] 0 hB (by decide) rfl
/-- 'append(list, t ..)' of some texts in a plain region, where nothing old is written. -/
theorem list_texts {P : Program} {ops : Array Oper} {rest : List Oper} {o : Oper} {a : Act} {Q : Exit → Act → World → Prop} (hgd : o.guard = none) (s x : Operand) (t : TypeId)
    (ho : o.op = .call { callee := .builtin .append, args := #[s, x], argTypes := #[t, t] }) (i : TypeInfo) (ht : P.underlying t = some (.slice 9)) (hi : P.info? 9 = some i) (hz : i.zero = some (.string ⟨#[]⟩))
    (hsize : i.size = 1) (hby : i.bytes = 16) (B : Nat) (w0 W : World) (v : Value) (ts zs : List ByteArray) (cs : Array Value) (n : Nat) (hn : zs.length = n) (hcs : cs = (zs.map Value.string).toArray) (hn1 : n ≤ 1000) (hs : a.eval s = v) (hown : OwnS W B v ts) (hg0 : Below B w0 W) (hB : B ≤ W.heap.size)
    (hx : a.eval x = .slice (some ⟨W.heap.size, 0, none⟩) n n) (hlen : ts.length ≤ 1000000)
    (h : ∀ v' w', OwnS w' B v' (ts ++ zs) → Below B w0 w' → W.heap.size ≤ w'.heap.size → (∀ k, k < W.heap.size → some k ≠ v.ownBlock → w'.heap[k]? = W.heap[k]?) → wpList P ops Q rest (a.put o.dst v') w') : wpList P ops Q (o :: rest) a (W.alloc (.cells cs 9)) := by
  subst hcs hn
  refine wpList_append_own _ hgd s x t ho B 9 i (.string ⟨#[]⟩) 1 16 ht hi hz hsize hby rfl (by decide) v ts.length _ hs (hown.alloc _) ⟨W.heap.size, 0, none⟩ zs.length zs.length (zs.map Value.string) hx (by simp) ?_ ?_ ?_ ?_ ?_ ?_
  · have := World.news_of_block (cs := (zs.map Value.string).toArray) (t := 9) (fr := (0, 0)) (heap_alloc_new W _)
    simpa using this
  · intro c hc
    obtain ⟨z, _, rfl⟩ := List.mem_map.1 hc
    rfl
  · unfold maxLen; omega
  · omega
  · simp; omega
  · intro v' w' h1 h2 _
    have hs2 := h2.size
    simp at hs2
    have hk : ∀ k, k < W.heap.size → some k ≠ v.ownBlock → w'.heap[k]? = W.heap[k]? := fun k hk hne => (h2.block k (by simp; omega) hne).trans (Below.heap_alloc W _ k hk)
    refine h v' w' (by unfold OwnS; simpa using h1) ?_ (by omega) hk
    exact (hg0.alloc hB _).grown h2 (by simp; omega) (fun k hk => (hown.lt k hk).1)
/-- 'append(list, t ..)', run. -/
theorem run_txt {P : Program} {i : TypeInfo} (t ty : TypeId) (ht : P.underlying t = some (.slice 9)) (hi : P.info? 9 = some i) (hz : i.zero = some (.string ⟨#[]⟩)) (hsize : i.size = 1) (hby : i.bytes = 16)
    (B : Nat) (W : World) (v u : Value) (zs xs : List ByteArray) (hown : OwnS W B v zs) (hB : B ≤ W.heap.size) (hu : RowT W u xs) (hlen : zs.length + xs.length ≤ 1000000000) :
    ∃ v' w', (Builtin.append_ #[t, t] ty #[v, u]).run P W = .ok v' w' ∧ OwnS w' B v' (zs ++ xs) ∧ Kp W w' v v' := by
  obtain ⟨ad, cap, rfl, hc⟩ := hu
  have hown2 := hown
  unfold OwnS at hown2
  cases ad with
  | none =>
    obtain rfl : xs = [] := by
      rcases hc with h | ⟨_, _, h, _⟩
      · exact h
      · cases h
    refine ⟨v, W, ?_, by simpa using hown, Kp.refl _ _⟩
    rcases hown2.2 with ⟨rfl, _⟩ | ⟨g, c, cur, rfl, _, _, hn, _⟩
    · exact run_append_nothing W t t ty 9 i ht hi none 0 0 (Nat.le_refl _) _ (Src.ofNil W ht cap)
    · exact run_append_nothing W t t ty 9 i ht hi _ _ _ hn _ (Src.ofNil W ht cap)
  | some ad =>
    obtain ⟨v', w', h1, h2, h3, _, h5⟩ := run_append_own_at (P := P) W B t ty 9 i (.string ⟨#[]⟩) 1 16 ht hi hz hsize hby rfl (by decide) v zs.length _ hown2 ad xs.length cap (xs.map Value.string) (by simp)
      (by
        intro j y hy
        rcases hc with rfl | ⟨b, off, e1, _, hb, hcell⟩
        · simp at hy
        · cases e1
          have hj : j < xs.length := by have := (List.getElem?_eq_some_iff.1 hy).1; simpa using this
          rw [addr_add, hcell j hj, ← hy, List.getElem?_map, tnth_at hj]
          rfl)
      (by intro y hy; obtain ⟨z, _, rfl⟩ := List.mem_map.1 hy; rfl) (by unfold maxLen; omega) (by omega) hB
    exact ⟨v', w', h1, by unfold OwnS; simpa using h2, Kp.of_grown h3 h5⟩
theorem OwnS.kp {w w1 : World} {v v1 : Value} {B : Nat} {zs : List ByteArray} (h : Kp w w1 v v1) (ho : OwnS w B v zs) (hB : B ≤ w.heap.size) : Below B w w1 := by
  refine ⟨h.os, h.tape, h.output, h.size, fun k hk => h.block k (Nat.lt_of_lt_of_le hk hB) fun hn => ?_⟩
  unfold OwnS at ho
  have := (ho.lt k hn.symm).1
  omega
theorem OwnS.drew {w : World} {B : Nat} {v : Value} {ts : List ByteArray} (h : OwnS w B v ts) : OwnS w.drew B v ts := h
/-- The same at a step of a region that draws its order. -/
theorem step_txt {P : Program} {i : TypeInfo} {ops : Array Oper} {o : Oper} {a : Act} {K : Act → World → Prop} {Q : Exit → Act → World → Prop} {E : Prop} (hgd : o.guard = none) (s x : Operand) (t : TypeId) (ho : o.op = .call { callee := .builtin .append, args := #[s, x], argTypes := #[t, t] }) (ht : P.underlying t = some (.slice 9)) (hi : P.info? 9 = some i) (hz : i.zero = some (.string ⟨#[]⟩))
    (hsize : i.size = 1) (hby : i.bytes = 16) (B : Nat) (W : World) (v u : Value) (zs xs : List ByteArray) (hs : a.eval s = v) (hx : a.eval x = u) (hown : OwnS W B v zs) (hB : B ≤ W.heap.size) (hu : RowT W u xs) (hlen : zs.length + xs.length ≤ 1000000000)
    (h : ∀ v' w', OwnS w' B v' (zs ++ xs) → Below B W w' → K (a.put o.dst v') w') : if Region.wanted o (yielded ops a.tmps) = true then Oper.wp P o a W K Q else E := by
  have hw : Region.wanted o (yielded ops a.tmps) = true := by simp [Region.wanted, hgd]
  rw [if_pos hw]
  obtain ⟨v', w', hr, ho', hg⟩ := run_txt (P := P) t o.type ht hi hz hsize hby B W v u zs xs hown hB hu hlen
  exact wp_app ho hs hx hr (h v' w' ho' (OwnS.kp hg hown hB))
/-- What was owned, and old texts, behind a call in a region that draws. -/
theorem ordS {w0 wc w1 : World} {B : Nat} {v : Value} {zs : List ByteArray} (o1 : OwnS wc B v zs) (g1 : Below B w0 wc) (hB : B ≤ wc.heap.size) (b1 : Below wc.drew.heap.size wc.drew w1) : OwnS w1 B v zs ∧ Below B w0 w1 ∧ B ≤ w1.heap.size :=
  ⟨OwnS.below o1.drew b1, g1.drew.trans (b1.mono hB), Nat.le_trans hB b1.size⟩
end Go.Proofs.YtkfiahemgdppfaaGreatDoor.Tx

/- Readings in a slice: read, measured, copied, compared. -/
namespace Go.Proofs.YtkfiahemgdppfaaGreatDoor.Rw
open Go.RowKit Go.Proofs.YtkfiahemgdppfaaGreatDoor.Sl Go.Proofs.YtkfiahemgdppfaaGreatDoor.Ap Go.Proofs.YtkfiahemgdppfaaGreatDoor.Tx

/-- A reading. -/
structure Rd where
  f : Int
  x : Int
  m : ByteArray
instance : Inhabited Rd := ⟨⟨0, 0, ⟨#[]⟩⟩⟩
def rn (rs : List Rd) (i : Nat) : Rd := rs.getD i ⟨0, 0, ⟨#[]⟩⟩
theorem rn_at {rs : List Rd} {i : Nat} (h : i < rs.length) : rs[i]? = some (rn rs i) := by
  unfold rn; rw [List.getD_eq_getElem?_getD, List.getElem?_eq_getElem h]; rfl
theorem rn_mem {rs : List Rd} {i : Nat} (h : i < rs.length) : rn rs i ∈ rs := List.mem_of_getElem? (rn_at h)
/-- The cells from off on in block b are those of the readings rs. -/
def CellsR (w : World) (b off : Nat) (rs : List Rd) : Prop :=
  ∀ i, i < rs.length → w.cell? ⟨b, off + i * 3, none⟩ = some (.int .i64 (rn rs i).f) ∧ w.cell? ⟨b, off + i * 3 + 1, none⟩ = some (.int .i64 (rn rs i).x) ∧ w.cell? ⟨b, off + i * 3 + 2, none⟩ = some (.string (rn rs i).m)
/-- The slice v holds the readings rs. -/
def RowR (w : World) (v : Value) (rs : List Rd) : Prop :=
  ∃ a cap, v = .slice a rs.length cap ∧ (rs = [] ∨ ∃ b off, a = some ⟨b, off, none⟩ ∧ rs.length ≤ cap ∧ b < w.heap.size ∧ CellsR w b off rs)
theorem CellsR.below {w w' : World} {b off : Nat} {rs : List Rd} (h : CellsR w b off rs) (hb : Below w.heap.size w w') (hlt : b < w.heap.size) : CellsR w' b off rs := fun i hi => by
  obtain ⟨h1, h2, h3⟩ := h i hi
  exact ⟨(hb.cell (p := ⟨b, _, none⟩) hlt).trans h1, (hb.cell (p := ⟨b, _, none⟩) hlt).trans h2, (hb.cell (p := ⟨b, _, none⟩) hlt).trans h3⟩
theorem RowR.below {w w' : World} {v : Value} {rs : List Rd} (h : RowR w v rs) (hb : Below w.heap.size w w') : RowR w' v rs := by
  obtain ⟨a, cap, rfl, h⟩ := h
  refine ⟨a, cap, rfl, ?_⟩
  rcases h with h | ⟨b, off, rfl, hc, hlt, h⟩
  · exact .inl h
  · exact .inr ⟨b, off, rfl, hc, Nat.lt_of_lt_of_le hlt hb.size, h.below hb hlt⟩
theorem ret_i {a b : Int} (h : a = b) : Ending.returned (.int .i64 a) = .returned (.int .i64 b) := by rw [h]
def SzOk (r : Int) (l s : Nat) : Prop := r = -1 ∨ ∃ q : Nat, r = q ∧ q ≤ l ∧ s ≤ l
theorem info3r : (Tryz.prog.info? 157).map (fun i => (i.zero, i.size, i.bytes)) = some (some (.agg #[.int .i64 0, .int .i64 0, .string ⟨#[]⟩]), 3, 32) := by kernel_rfl
/-- The copy: the cells of its first k readings are written. -/
def Cop (rs : List Rd) (k : Nat) (A : Array Value) : Prop := A.size = rs.length * 3 ∧ ∀ j, j < k → A[j * 3]? = some (.int .i64 (rn rs j).f) ∧ A[j * 3 + 1]? = some (.int .i64 (rn rs j).x) ∧ A[j * 3 + 2]? = some (.string (rn rs j).m)
theorem cop_step {rs : List Rd} {k : Nat} {A : Array Value} (h : Cop rs k A) (hk : k < rs.length) :
    Cop rs (k + 1) (((A.setIfInBounds (k * 3) (.int .i64 (rn rs k).f)).setIfInBounds (k * 3 + 1) (.int .i64 (rn rs k).x)).setIfInBounds (k * 3 + 2) (.string (rn rs k).m)) := by
  refine ⟨by simpa using h.1, fun j hj => ?_⟩
  have hs := h.1
  simp only [Array.getElem?_setIfInBounds, Array.size_setIfInBounds]
  by_cases e : j = k
  · subst e
    refine ⟨?_, ?_, ?_⟩
    · rw [if_neg (by omega), if_neg (by omega), if_pos rfl, if_pos (by omega)]
    · rw [if_neg (by omega), if_pos rfl, if_pos (by omega)]
    · rw [if_pos rfl, if_pos (by omega)]
  · obtain ⟨h1, h2, h3⟩ := h.2 j (by omega)
    refine ⟨?_, ?_, ?_⟩
    · rw [if_neg (by omega), if_neg (by omega), if_neg (by omega)]; exact h1
    · rw [if_neg (by omega), if_neg (by omega), if_neg (by omega)]; exact h2
    · rw [if_neg (by omega), if_neg (by omega), if_neg (by omega)]; exact h3
end Go.Proofs.YtkfiahemgdppfaaGreatDoor.Rw
namespace Go.Proofs.YtkfiahemgdppfaaGreatDoor.Op
open Go.ChangeShapes Go.WideShapes Go.ChangeAt Go.RowKit Go.Deep
end Go.Proofs.YtkfiahemgdppfaaGreatDoor.Op

/- strings.Join at this program: the library's contract, laid. -/
namespace Go.Proofs.YtkfiahemgdppfaaGreatDoor.Sf
open Go.Shelf Go.RowKit
def lays156_ren : Go.Shelf.Ren := ⟨fun | 156 => 135 | 165 => 152 | 166 => 153 | 169 => 154 | 240 => 163 | 241 => 164 | 276 => 168 | 277 => 169 | n => n, fun | 31 => 28 | 9 => 9 | 3 => 3 | 4 => 4 | 0 => 0 | 20 => 20 | 72 => 217 | 76 => 221 | 70 => 215 | 37 => 22 | 75 => 220 | 127 => 231 | 164 => 232 | 5 => 5 | 80 => 223 | n => n, fun | n => n⟩
theorem lays156 : Go.Proofs.Lays.n156 Tryz.prog lays156_ren := {
  mixed := by kernel_rfl
  f156 := Tryz.func135.trans (congrArg some (by kernel_rfl))
  f165 := Tryz.func152.trans (congrArg some (by kernel_rfl))
  f166 := Tryz.func153.trans (congrArg some (by kernel_rfl))
  f169 := Tryz.func154.trans (congrArg some (by kernel_rfl))
  f240 := Tryz.func163.trans (congrArg some (by kernel_rfl))
  f241 := Tryz.func164.trans (congrArg some (by kernel_rfl))
  f276 := Tryz.func168.trans (congrArg some (by kernel_rfl))
  f277 := Tryz.func169.trans (congrArg some (by kernel_rfl))
  t0 := Tryz.underlying0
  a0 := Tryz.isAgg0
  z0 := Tryz.sizeOf0
  v0 := Tryz.zeroValue0
  t3 := Tryz.underlying3
  a3 := Tryz.isAgg3
  z3 := Tryz.sizeOf3
  v3 := Tryz.zeroValue3
  t4 := Tryz.underlying4
  a4 := Tryz.isAgg4
  z4 := Tryz.sizeOf4
  v4 := Tryz.zeroValue4
  t9 := Tryz.underlying9
  a9 := Tryz.isAgg9
  z9 := Tryz.sizeOf9
  v9 := Tryz.zeroValue9
  t20 := Tryz.underlying20
  a20 := Tryz.isAgg20
  z20 := Tryz.sizeOf20
  v20 := Tryz.zeroValue20
  t31 := Tryz.underlying28
  a31 := Tryz.isAgg28
  z31 := Tryz.sizeOf28
  v31 := Tryz.zeroValue28
  t37 := Tryz.underlying22
  a37 := Tryz.isAgg22
  z37 := Tryz.sizeOf22
  v37 := Tryz.zeroValue22
  t70 := Tryz.underlying215
  a70 := Tryz.isAgg215
  z70 := Tryz.sizeOf215
  v70 := Tryz.zeroValue215
  t72 := Tryz.underlying217
  a72 := Tryz.isAgg217
  z72 := Tryz.sizeOf217
  v72 := Tryz.zeroValue217
  t75 := Tryz.underlying220
  a75 := Tryz.isAgg220
  z75 := Tryz.sizeOf220
  v75 := Tryz.zeroValue220
  t76 := Tryz.underlying221
  a76 := Tryz.isAgg221
  z76 := Tryz.sizeOf221
  v76 := Tryz.zeroValue221
  t127 := Tryz.underlying231
  a127 := Tryz.isAgg231
  z127 := Tryz.sizeOf231
  v127 := Tryz.zeroValue231
  t164 := Tryz.underlying232
  a164 := Tryz.isAgg232
  z164 := Tryz.sizeOf232
  v164 := Tryz.zeroValue232 }
theorem extra156 : Builder.Extra Tryz.prog lays156_ren := {
  sizeBuilder := by kernel_rfl
  liesBuilder := by kernel_rfl
  t5 := Tryz.underlying5
  a5 := Tryz.isAgg5
  z5 := Tryz.sizeOf5
  v5 := Tryz.zeroValue5
  infoByte := by kernel_rfl
  cellsByte := by kernel_rfl
  sizeByte := by kernel_rfl
  neB5 := by decide }
theorem join_laid (bk o c : Nat) (xs : List ByteArray) (sep : ByteArray) (w : World) (hcells : ∀ (j : Nat) x, xs[j]? = some x → w.cell? ⟨bk, o + j, none⟩ = some (.string x)) (hbk : bk < w.heap.size) (hN : xs.length ≤ 140737488355328) (hcap : xs.length ≤ c) (hlen : (Lib.join (xs.map (·.data.toList)) sep.data.toList).length ≤ 140737488355328) :
    Calls Tryz.prog 135 #[.slice (some ⟨bk, o, none⟩) xs.length c, .string sep] w fun e w' => e = .returned (.string ⟨(Lib.join (xs.map (·.data.toList)) sep.data.toList).toArray⟩) ∧ Below w.heap.size w w' := Any.strings_Join lays156 extra156 bk o c xs sep w hcells hbk hN hcap hlen
end Go.Proofs.YtkfiahemgdppfaaGreatDoor.Sf
