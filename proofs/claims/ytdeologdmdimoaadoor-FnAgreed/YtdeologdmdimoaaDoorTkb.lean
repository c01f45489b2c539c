/- Readings in a row of one's own; a batch is taken off the wire. -/
import Derived.Test.YtdeologdmdimoaaDoorBo2
import Derived.Test.YtdeologdmdimoaaDoorTakeReq
import Derived.Maps.AppendAt
import Derived.Deep.RegionHeldLaw
import Derived.Deep.RegionWith
namespace Go.Proofs.YtdeologdmdimoaaDoor.Tkb
open Go.RowKit Go.Proofs.YtdeologdmdimoaaDoor.Sl Go.Proofs.YtdeologdmdimoaaDoor.By Go.Proofs.YtdeologdmdimoaaDoor.Ap Go.Proofs.YtdeologdmdimoaaDoor.Rq Go.Proofs.YtdeologdmdimoaaDoor.Rr Go.Proofs.YtdeologdmdimoaaDoor.Gr Go.Proofs.YtdeologdmdimoaaDoor.Bo
open Go.Proofs.YtdeologdmdimoaaDoor.Rg (RowG RowG.slice RowG.at lt_at mem_at bel_new)

def cl (x : Rd) : List Value := [.int .i64 x.f, .int .i64 x.x, .string x.m]
theorem cl_len (x : Rd) : (cl x).length = 3 := rfl
theorem cl_one (x : Rd) : ∀ u ∈ cl x, u.oneCell' = true := by
  intro u hu
  unfold cl at hu
  simp only [List.mem_cons, List.not_mem_nil, or_false] at hu
  rcases hu with h | h | h <;> (rw [h]; rfl)
theorem fm_len : ∀ (ms : List Rd), (ms.flatMap cl).length = ms.length * 3
  | [] => rfl
  | x :: xs => by rw [List.flatMap_cons, List.length_append, fm_len xs, cl_len, List.length_cons]; omega
theorem fm_at : ∀ (ms : List Rd) (i : Nat) (x : Rd) (j : Nat), ms[i]? = some x → j < 3 → (ms.flatMap cl)[i * 3 + j]? = (cl x)[j]?
  | [], i, x, j, h, _ => by simp at h
  | y :: ys, 0, x, j, h, hj => by
    simp at h
    subst h
    rw [List.flatMap_cons, Nat.zero_mul, Nat.zero_add, List.getElem?_append_left (by rw [cl_len]; exact hj)]
  | y :: ys, i + 1, x, j, h, hj => by
    have h' : ys[i]? = some x := by simpa using h
    rw [List.flatMap_cons, List.getElem?_append_right (by rw [cl_len]; omega), cl_len, show (i + 1) * 3 + j - 3 = i * 3 + j by omega]
    exact fm_at ys i x j h' hj
/-- Messages in a slice of the call's own. -/
def OwnR (w : World) (B : Nat) (v : Value) (ms : List Rd) : Prop := w.ownsRow B 40 3 v ms.length (ms.flatMap cl)
theorem OwnR.row {w : World} {B : Nat} {v : Value} {ms : List Rd} (h : OwnR w B v ms) : Row w v ms := by
  obtain ⟨hl, h⟩ := h
  rcases h with ⟨rfl, h0⟩ | ⟨g, cap, cur, rfl, hB, hg, hc, _, hs, htk⟩
  · exact ⟨none, 0, by rw [h0], .inl (List.length_eq_zero_iff.1 h0)⟩
  · refine ⟨_, cap, rfl, .inr ⟨g, 0, rfl, hc, (Array.getElem?_eq_some_iff.1 hg).1, fun i x hi => ?_⟩⟩
    have hil := lt_at hi
    have key : ∀ j u, j < 3 → (cl x)[j]? = some u → w.cell? ⟨g, 0 + i * 3 + j, none⟩ = some u := fun j u hj hu => by
      rw [Nat.zero_add, Joins.cell_of_block hg, ← Array.getElem?_toList]
      have h1 := fm_at ms i x j hi hj
      rw [← htk, List.getElem?_take, if_pos (by omega)] at h1
      rw [h1, hu]
    exact ⟨key 0 _ (by decide) rfl, key 1 _ (by decide) rfl, key 2 _ (by decide) rfl⟩
theorem OwnR.kept {w w' : World} {B : Nat} {v : Value} {ms : List Rd} (h : OwnR w B v ms) (hk : ∀ g, v.ownBlock = some g → w'.heap[g]? = w.heap[g]?) : OwnR w' B v ms := by
  obtain ⟨hl, h⟩ := h
  refine ⟨hl, ?_⟩
  rcases h with h | ⟨g, cap, cur, rfl, h1, hg, h2⟩
  · exact .inl h
  · exact .inr ⟨g, cap, cur, rfl, h1, (hk g rfl).trans hg, h2⟩
theorem OwnR.lt {w : World} {B : Nat} {v : Value} {ms : List Rd} (h : OwnR w B v ms) : ∀ g, v.ownBlock = some g → B ≤ g ∧ g < w.heap.size := World.ownsRow.lt h
theorem OwnR.below {w w' : World} {B : Nat} {v : Value} {ms : List Rd} (h : OwnR w B v ms) (hb : Below w.heap.size w w') : OwnR w' B v ms := h.kept fun g hg => hb.block g (h.lt g hg).2
theorem OwnR.mono {w : World} {B B' : Nat} {v : Value} {ms : List Rd} (h : OwnR w B v ms) (hb : B' ≤ B) : OwnR w B' v ms := by
  obtain ⟨hl, h⟩ := h
  refine ⟨hl, ?_⟩
  rcases h with h | ⟨g, cap, cur, rfl, h1, hg, h2⟩
  · exact .inl h
  · exact .inr ⟨g, cap, cur, rfl, Nat.le_trans hb h1, hg, h2⟩
theorem OwnR.nil (w : World) (B : Nat) : OwnR w B (.slice none 0 0) [] := World.ownsRow_nil _ _ _ _
theorem OwnR.made (w : World) (B : Nat) (hB : B ≤ w.heap.size) : OwnR (w.alloc (.cells #[] 40)) B (.slice (some ⟨w.heap.size, 0, none⟩) 0 0) [] := World.ownsRow_made w #[] 0 hB (by decide) rfl
theorem OwnR.alloc {w : World} {B : Nat} {v : Value} {ms : List Rd} (h : OwnR w B v ms) (o : Obj) : OwnR (w.alloc o) B v ms := h.below (bel_new _ _)
theorem info_r : (Tryd.prog.info? 40).map (fun i => (i.zero, i.size, i.bytes)) = some (some (.agg #[.int .i64 0, .int .i64 0, .string ⟨#[]⟩]), 3, 32) := by kernel_rfl
/-- Nothing was written but v's own row, and new blocks. -/
def Kq (W w' : World) (v v' : Value) : Prop := ∀ k, k < W.heap.size → some k ≠ v.ownBlock → w'.heap[k]? = W.heap[k]? ∧ some k ≠ v'.ownBlock
/-- One message more. -/
theorem list_rd {P : Program} {ops : Array Oper} {rest : List Oper} {o : Oper} {a : Act} {Q : Exit → Act → World → Prop} (hgd : o.guard = none) (s x : Operand) (t : TypeId)
    (ho : o.op = .call { callee := .builtin .append, args := #[s, x], argTypes := #[t, t] }) (i : TypeInfo) (ht : P.underlying t = some (.slice 40)) (hi : P.info? 40 = some i) (hz : i.zero = some (.agg #[.int .i64 0, .int .i64 0, .string ⟨#[]⟩]))
    (hsize : i.size = 3) (hby : i.bytes = 32) (B : Nat) (w0 W : World) (v : Value) (ms : List Rd) (m : Rd) (hs : a.eval s = v) (hown : OwnR W B v ms) (hg0 : Below B w0 W) (hB : B ≤ W.heap.size)
    (gx : Nat) (hx : a.eval x = .slice (some ⟨gx, 0, none⟩) 1 1) (hgx : W.heap.size = gx) (hlen : ms.length ≤ 1000000)
    (h : ∀ v' w', OwnR w' B v' (ms ++ [m]) → Below B w0 w' → Kq W w' v v' → wpList P ops Q rest (a.put o.dst v') w') : wpList P ops Q (o :: rest) a (W.alloc (.cells #[.int .i64 m.f, .int .i64 m.x, .string m.m] 40)) := by
  subst hgx
  have hown' := hown.alloc (.cells #[.int .i64 m.f, .int .i64 m.x, .string m.m] 40)
  refine wpList_append_own_at (P := P) _ hgd s x t ho B 40 i _ 3 32 ht hi hz hsize hby rfl (by decide) v ms.length _ hs hown' ⟨W.heap.size, 0, none⟩ 1 1 (cl m) hx rfl ?_ (cl_one m) (by unfold maxLen; omega) (by omega) (by simp; omega) ?_
  · intro j u hj
    have h2 : (⟨W.heap.size, 0, none⟩ : Addr).add j = ⟨W.heap.size, j, none⟩ := by unfold Addr.add; split <;> simp_all
    rw [h2, Joins.cell_of_block (heap_alloc_new W _), ← hj]
    simp [cl]
  · intro v' w' h1 h2 h3 h4
    refine h v' w' (by unfold OwnR; rw [List.flatMap_append, List.length_append]; simpa using h1) ((hg0.alloc hB _).grown h2 (by simp; omega) (fun k hk => (hown'.lt k hk).1)) (fun k hk hn => ⟨(h2.block k (by simp; omega) hn).trans (Below.heap_alloc W _ k hk), fun e => ?_⟩)
    rcases h4 with h4 | h4
    · exact hn (e.trans h4)
    · rw [h4] at e
      simp at e
      omega

/-- The reading that bytes tell. -/
def rd1 (xs : List Int) : Rd := ⟨beN (tkB 1 xs), beN (tkB 4 (tkR 1 xs)), strOfNums (tkB 8 (tkR 4 (tkR 1 xs)))⟩
def rdRest (xs : List Int) : List Int := tkR 8 (tkR 4 (tkR 1 xs))
def rdSh (xs : List Int) (sh : Bool) : Bool := tkS 8 (tkR 4 (tkR 1 xs)) (tkS 4 (tkR 1 xs) (tkS 1 xs sh))
/-- What is left behind k readings, whether they fell short, the readings. -/
def bR (xs : List Int) : Nat → List Int
  | 0 => xs
  | k + 1 => rdRest (bR xs k)
def bS (xs : List Int) (sh : Bool) : Nat → Bool
  | 0 => sh
  | k + 1 => rdSh (bR xs k) (bS xs sh k)
def bL (xs : List Int) : Nat → List Rd
  | 0 => []
  | k + 1 => bL xs k ++ [rd1 (bR xs k)]
theorem bL_len (xs : List Int) : ∀ k, (bL xs k).length = k
  | 0 => rfl
  | k + 1 => by unfold bL; rw [List.length_append, bL_len xs k]; rfl
theorem bR_range {xs : List Int} (h : ∀ x ∈ xs, 0 ≤ x ∧ x ≤ 255) : ∀ k, ∀ x ∈ bR xs k, 0 ≤ x ∧ x ≤ 255
  | 0 => h
  | k + 1 => tkR_range (tkR_range (tkR_range (bR_range h k)))
theorem bR_len (xs : List Int) : ∀ k, (bR xs k).length ≤ xs.length
  | 0 => Nat.le_refl _
  | k + 1 => Nat.le_trans (Nat.le_trans (tkR_len _ _) (Nat.le_trans (tkR_len _ _) (tkR_len _ _))) (bR_len xs k)
theorem own_kept {w w' : World} {B p : Nat} {v : Value} {ms : List Rd} (h : OwnR w B v ms) (hg : w.grownBy w' (some p)) (hp : p < B) : OwnR w' B v ms :=
  h.kept fun g hv => hg.block g (h.lt g hv).2 (by have := (h.lt g hv).1; simp; omega)
theorem own_ne {w : World} {B x : Nat} {v : Value} {ms : List Rd} {cs : Array Value} (h : OwnR w B v ms) (hx : w.heap[x]? = some (.cells cs 73 (0, 0))) : some x ≠ v.ownBlock := by
  intro e
  obtain ⟨_, h | ⟨g', cap', cur, he, _, hgg, _⟩⟩ := h
  · rw [h.1] at e; simp [Value.ownBlock] at e
  · rw [he] at e
    simp [Value.ownBlock] at e
    subst e
    rw [hx] at hgg
    simp at hgg

theorem ret_bt {a b : Value} (h : a = b) : Ending.returned a = .returned b := by rw [h]
end Go.Proofs.YtdeologdmdimoaaDoor.Tkb
