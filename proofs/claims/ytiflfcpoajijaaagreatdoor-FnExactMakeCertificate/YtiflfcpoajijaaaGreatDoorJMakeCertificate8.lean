/- Words for the specification's l01Hash: what it appends, and what it reads again. -/
import Derived.Test.YtiflfcpoajijaaaGreatDoorJMakeCertificate6
import Derived.Test.YtiflfcpoajijaaaGreatDoorJMakeCertificate7
import Derived.Deep.Upon
import Derived.Maps.AppendAt
namespace Go.Proofs.YtiflfcpoajijaaaGreatDoor.Sh
open Go.RowKit Go.Proofs.YtiflfcpoajijaaaGreatDoor.Sl Go.Proofs.YtiflfcpoajijaaaGreatDoor.Me

/-- 'append(v, u...)' of bytes that are only read onto a slice of the call's own. -/
theorem wpList_append_rowB {P : Program} {ops : Array Oper} {rest : List Oper} {o : Oper} {a : Act} {Q : Exit → Act → World → Prop} (hgd : o.guard = none) (s x : Operand) (t : TypeId)
    (ho : o.op = .call { callee := .builtin .append, args := #[s, x], argTypes := #[t, t] }) (e : TypeId) (i : TypeInfo) (ht : P.underlying t = some (.slice e)) (hi : P.info? e = some i) (hz : i.zero = some (.int .u8 0))
    (hsize : i.size = 1) (hby : i.bytes = 1) (B : Nat) (w0 W : World) (v u : Value) (zs xs : List Int) (hs : a.eval s = v) (hown : By.OwnB e W B v zs) (hbel : Below B w0 W) (hB : B ≤ W.heap.size)
    (hx : a.eval x = u) (hu : RowB W u xs) (hlen : zs.length + xs.length ≤ 140737488355328)
    (h : ∀ v' w', By.OwnB e w' B v' (zs ++ xs) → Below B w0 w' → B ≤ w'.heap.size → wpList P ops Q rest (a.put o.dst v') w') : wpList P ops Q (o :: rest) a W := by
  obtain ⟨ad, cap, rfl, hc, _⟩ := hu
  have hown2 := hown
  unfold By.OwnB at hown2
  cases ad with
  | none =>
    obtain rfl : xs = [] := by
      rcases hc with h | ⟨_, _, h, _⟩
      · exact h
      · cases h
    have hr : (Builtin.append_ #[t, t] o.type #[v, .slice none 0 cap]).run P W = .ok v W := by
      rcases hown2.2 with ⟨rfl, _⟩ | ⟨g, c, cur, rfl, _, _, hn, _⟩
      · exact run_append_nothing W t t o.type e i ht hi none 0 0 (Nat.le_refl _) _ (Src.ofNil W ht cap)
      · exact run_append_nothing W t t o.type e i ht hi _ _ _ hn _ (Src.ofNil W ht cap)
    refine wpList_plain hgd fun K hK => ?_
    unfold Oper.wp execOp
    simp only [ho, resolve, invoke, builtin, Sem.run_bind, Sem.run_pure, Result.andThen_ok, List.map_toArray, List.map_cons, List.map_nil, hs, hx, List.length_nil, hr]
    exact hK _ _ (h v W (by simpa using hown) hbel hB)
  | some ad =>
    refine wpList_append_own _ hgd s x t ho B e i (.int .u8 0) 1 1 ht hi hz hsize hby rfl (by decide) v zs.length _ hs hown2 ad xs.length cap (xs.map (Value.int .u8)) hx (by simp) ?_ ?_ ?_ ?_ hB ?_
    · intro j y hy
      rcases hc with rfl | ⟨b, off, e1, _, hb, hcell⟩
      · simp at hy
      · cases e1
        have hj : j < xs.length := by have := (List.getElem?_eq_some_iff.1 hy).1; simpa using this
        rw [addr_add, hcell j hj, ← hy, List.getElem?_map, List.getElem?_eq_getElem hj]
        unfold nth
        rw [List.getD_eq_getElem?_getD, List.getElem?_eq_getElem hj]
        rfl
    · intro y hy
      obtain ⟨z, _, rfl⟩ := List.mem_map.1 hy
      rfl
    · unfold maxLen; omega
    · omega
    · intro v' w' h1 h2 _
      refine h v' w' (by unfold By.OwnB; simpa using h1) (hbel.grown h2 hB (fun k hk => (hown2.lt k hk).1)) ?_
      have := h2.size
      omega

/-- 'append(v, a, b, c, d)' onto a slice of the call's own. -/
theorem wpList_append_four {P : Program} {ops : Array Oper} {rest : List Oper} {o : Oper} {a : Act} {Q : Exit → Act → World → Prop} (hgd : o.guard = none) (s x : Operand) (t : TypeId)
    (ho : o.op = .call { callee := .builtin .append, args := #[s, x], argTypes := #[t, t] }) (e : TypeId) (i : TypeInfo) (ht : P.underlying t = some (.slice e)) (hi : P.info? e = some i) (hz : i.zero = some (.int .u8 0))
    (hsize : i.size = 1) (hby : i.bytes = 1) (B : Nat) (w0 W : World) (v : Value) (zs : List Int) (z0 z1 z2 z3 : Int) (hs : a.eval s = v) (hown : By.OwnB e W B v zs) (hbel : Below B w0 W) (hB : B ≤ W.heap.size)
    (hx : a.eval x = .slice (some ⟨W.heap.size, 0, none⟩) 4 4) (hlen : zs.length + 4 ≤ 140737488355328)
    (h : ∀ v' w', By.OwnB e w' B v' (zs ++ [z0, z1, z2, z3]) → Below B w0 w' → B ≤ w'.heap.size → wpList P ops Q rest (a.put o.dst v') w') : wpList P ops Q (o :: rest) a (W.alloc (.cells #[.int .u8 z0, .int .u8 z1, .int .u8 z2, .int .u8 z3] e)) := by
  refine wpList_append_own _ hgd s x t ho B e i (.int .u8 0) 1 1 ht hi hz hsize hby rfl (by decide) v zs.length _ hs (hown.alloc _) ⟨W.heap.size, 0, none⟩ 4 4 [.int .u8 z0, .int .u8 z1, .int .u8 z2, .int .u8 z3] hx rfl ?_ ?_ ?_ ?_ ?_ ?_
  · exact World.news_of_block (cs := #[.int .u8 z0, .int .u8 z1, .int .u8 z2, .int .u8 z3]) (t := e) (fr := (0, 0)) (heap_alloc_new W _)
  · simp [Value.oneCell']
  · unfold maxLen; omega
  · omega
  · simp; omega
  · intro v' w' h1 h2 _
    refine h v' w' (by unfold By.OwnB; simpa using h1) (By.below_own _ hown hbel hB h2) ?_
    have := h2.size
    simp at this
    omega

/-- The like at a step of a region that draws its order: behind the draw. -/
theorem step_append_four {P : Program} {ops : Array Oper} {o : Oper} {a : Act} {K : Act → World → Prop} {Q : Exit → Act → World → Prop} {E : Prop} (hgd : o.guard = none) (s x : Operand) (t : TypeId)
    (ho : o.op = .call { callee := .builtin .append, args := #[s, x], argTypes := #[t, t] }) (e : TypeId) (i : TypeInfo) (ht : P.underlying t = some (.slice e)) (hi : P.info? e = some i) (hz : i.zero = some (.int .u8 0))
    (hsize : i.size = 1) (hby : i.bytes = 1) (B : Nat) (w0 W : World) (v : Value) (zs : List Int) (z0 z1 z2 z3 : Int) (hs : a.eval s = v) (hown : By.OwnB e W B v zs) (hbel : Below B w0 W) (hB : B ≤ W.heap.size)
    (hx : a.eval x = .slice (some ⟨W.heap.size, 0, none⟩) 4 4) (hlen : zs.length + 4 ≤ 140737488355328)
    (h : ∀ v' w', By.OwnB e w' B v' (zs ++ [z0, z1, z2, z3]) → Below B w0 w' → B ≤ w'.heap.size → K (a.put o.dst v') w') :
    if Region.wanted o (yielded ops a.tmps) = true then Oper.wp P o a (W.alloc (.cells #[.int .u8 z0, .int .u8 z1, .int .u8 z2, .int .u8 z3] e)).drew K Q else E := by
  refine step_append_lies _ hgd s x t ho B e i (.int .u8 0) 1 1 ht hi hz hsize hby rfl (by decide) v zs.length _ hs ((hown.alloc _).drew) ⟨W.heap.size, 0, none⟩ 4 4 [.int .u8 z0, .int .u8 z1, .int .u8 z2, .int .u8 z3] hx rfl ?_ ?_ (by omega) ?_ ?_ ?_ (W.heap.size + 1) (by simp) ?_
  · exact World.news_of_block (cs := #[.int .u8 z0, .int .u8 z1, .int .u8 z2, .int .u8 z3]) (t := e) (fr := (0, 0)) (heap_alloc_new W _)
  · simp [Value.oneCell']
  · unfold maxLen; omega
  · omega
  · simp; omega
  · intro g cap w' h1 h2 _ _
    refine h _ w' (by unfold By.OwnB; simpa using h1) (By.below_own _ hown hbel hB ⟨h2.os, h2.tape, h2.output, h2.size, h2.block⟩) ?_
    have := h2.size
    simp at this
    omega

/-- What such a slice is. -/
theorem own_open {e : TypeId} {w : World} {B n : Nat} {v : Value} {zs : List Int} (h : By.OwnB e w B v zs) (hn : zs.length = n) :
    ∃ ad cap, v = .slice ad n cap ∧ (0 < n → ∃ g, ad = some ⟨g, 0, none⟩ ∧ B ≤ g ∧ g < w.heap.size ∧ n ≤ cap ∧ ∀ i, i < n → w.cell? ⟨g, i, none⟩ = some (.int .u8 (nth zs i))) := by
  unfold By.OwnB at h
  rw [hn] at h
  rcases h.2 with ⟨rfl, h0⟩ | ⟨g, cap, cur, rfl, hb, hg, hnc, _, _, htk⟩
  · exact ⟨none, 0, by rw [h0], fun h => by omega⟩
  · refine ⟨_, cap, rfl, fun _ => ⟨g, rfl, hb, (Array.getElem?_eq_some_iff.1 hg).1, hnc, fun i hi => ?_⟩⟩
    have h1 : (cur.toList.take (n * 1))[i]? = some (.int .u8 (nth zs i)) := by
      rw [htk, List.getElem?_map, List.getElem?_eq_getElem (by omega)]
      unfold nth
      rw [List.getD_eq_getElem?_getD, List.getElem?_eq_getElem (show i < zs.length by omega)]
      rfl
    rw [List.getElem?_take_of_lt (by omega), Array.getElem?_toList] at h1
    simp [World.cell?, hg, h1]

def midTo (xs : List Int) (k : Nat) : List Int := xs ++ [128] ++ List.replicate k 0
theorem midTo_length (xs : List Int) (k : Nat) : (midTo xs k).length = xs.length + 1 + k := by unfold midTo; simp; omega
theorem midTo_succ (xs : List Int) (k : Nat) : midTo xs (k + 1) = midTo xs k ++ [0] := by
  unfold midTo; rw [List.replicate_succ', ← List.append_assoc]
theorem midTo_zero (xs : List Int) : midTo xs 0 = xs ++ [128] := by unfold midTo; simp
def lenTo (n k : Nat) : List Int := (lenBytes n).take k
theorem lenTo_length (n k : Nat) (h : k ≤ 8) : (lenTo n k).length = k := by
  unfold lenTo lenBytes; rw [List.length_take]; simp; omega
theorem lenTo_succ (n k : Nat) (h : k < 8) : lenTo n (k + 1) = lenTo n k ++ [lenByte n k] := by
  match k, h with
  | 0, _ => rfl
  | 1, _ => rfl
  | 2, _ => rfl
  | 3, _ => rfl
  | 4, _ => rfl
  | 5, _ => rfl
  | 6, _ => rfl
  | 7, _ => rfl
theorem pad_eq (xs : List Int) : pad xs = midTo xs (zerosOf xs.length) ++ lenTo xs.length 8 := rfl
def padTo (xs : List Int) (k : Nat) : List Int := midTo xs (zerosOf xs.length) ++ lenTo xs.length k
theorem padTo_succ (xs : List Int) (k : Nat) (h : k < 8) : padTo xs (k + 1) = padTo xs k ++ [lenByte xs.length k] := by
  unfold padTo; rw [lenTo_succ _ _ h, List.append_assoc]
theorem padTo_length (xs : List Int) (k : Nat) (h : k ≤ 8) : (padTo xs k).length = xs.length + 1 + zerosOf xs.length + k := by
  unfold padTo; rw [List.length_append, midTo_length, lenTo_length _ _ h]
theorem padTo_zero (xs : List Int) : padTo xs 0 = midTo xs (zerosOf xs.length) := by unfold padTo lenTo; simp
/-- The length of a slice. -/
def lenV : Value → Nat
  | .slice _ n _ => n
  | _ => 0
theorem mid_done {n k : Nat} (h : (n + 1 + k) % 64 = 56) (hk : k ≤ zerosOf n) : k = zerosOf n := by unfold zerosOf at *; omega
theorem mid_end (n : Nat) : (n + 1 + zerosOf n) % 64 = 56 := by unfold zerosOf; omega

/-- 'all[i:i+64]'. -/
theorem slice64c (n c b q : Nat) (h : 64 * q + 64 ≤ n) (hc : n ≤ c) (W : World) :
    (Instr.slice 22 (.slice (some ⟨b, 0, none⟩) n c) (some (.int .i64 (64 * (q : Int)))) (some (.int .i64 (64 * (q : Int) + 64))) none).run Tryz.prog W = .ok (.slice (some ⟨b, 64 * q, none⟩) 64 (c - 64 * q)) W := by
  have := Lib.run_slice_window (P := Tryz.prog) W 22 5 Tryz.underlying22 size1 b 0 n c (64 * q) (64 * q + 64) (by omega) (by omega)
  rw [Nat.zero_add, show 64 * q + 64 - 64 * q = 64 by omega] at this
  rw [← this]
  rfl
theorem ArrAt.grown {w w' : World} {g : Nat} {T : TypeId} {A : Array Value} {row : Option Nat} (h : ArrAt w g T A) (hg : w.grownBy w' row) (hne : some g ≠ row) : ArrAt w' g T A := (hg.block g (ArrAt.lt h) hne).trans h
theorem len_byte (n k : Nat) (h : k < 8) : 8 * (n : Int) / 2 ^ (8 * (7 - k)) % 256 = lenByte n k := by
  have := len_eq n (7 - k) (by omega)
  rw [Int.mul_comm, this, show 7 - (7 - k) = k by omega]
end Go.Proofs.YtiflfcpoajijaaaGreatDoor.Sh
