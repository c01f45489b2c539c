/- Appending bytes onto a slice of the call's own: a row of bytes, a text, a byte; in a plain region and in one that draws its order. Of no program. -/
import Derived.Test.YtlhokhccjejcoaaBy
import Derived.Test.YtlhokhccjejcoaaSl
import Derived.Lib.AppendStr
import Derived.Deep.Upon
import Derived.Laws.OwnMore
import Derived.Maps.AppendAt
namespace Go.Proofs.Ytlhokhccjejcoaa.Ap
open Go.RowKit Go.Proofs.Ytlhokhccjejcoaa.By Go.Proofs.Ytlhokhccjejcoaa.Sl

/-- A text's bytes. -/
def bys (s : ByteArray) : List Int := s.data.toList.map fun b => ((b.toNat : Nat) : Int)
theorem bys_length (s : ByteArray) : (bys s).length = s.size := by unfold bys; rw [List.length_map, Array.length_toList]; rfl
theorem bys_range (s : ByteArray) : ∀ x ∈ bys s, 0 ≤ x ∧ x ≤ 255 := by
  intro x hx
  unfold bys at hx
  obtain ⟨b, _, rfl⟩ := List.mem_map.1 hx
  have := b.toNat_lt
  omega
theorem str_cells (s : ByteArray) : Lib.strCells s = (bys s).map (Value.int .u8) := by unfold Lib.strCells bys; rw [List.map_map]; rfl

theorem addr_add (b off j : Nat) : (⟨b, off, none⟩ : Addr).add j = ⟨b, off + j, none⟩ := by unfold Addr.add; split <;> simp_all

theorem own_rowB {e : TypeId} {w : World} {B : Nat} {v : Value} {zs : List Int} (h : OwnB e w B v zs) (hr : ∀ z ∈ zs, 0 ≤ z ∧ z ≤ 255) : RowB w v zs := by
  obtain ⟨hl, h⟩ := h
  rcases h with ⟨rfl, h0⟩ | ⟨g, cap, cur, rfl, hb, hg, hnc, _, _, htk⟩
  · exact ⟨none, 0, by rw [h0], .inl (List.length_eq_zero_iff.1 h0), hr⟩
  · refine ⟨_, cap, rfl, ?_, hr⟩
    by_cases h0 : zs = []
    · exact .inl h0
    · refine .inr ⟨g, 0, rfl, hnc, (Array.getElem?_eq_some_iff.1 hg).1, fun i hi => ?_⟩
      have h1 : (cur.toList.take (zs.length * 1))[i]? = some (.int .u8 (nth zs i)) := by
        rw [htk, List.getElem?_map, List.getElem?_eq_getElem hi]
        unfold nth
        rw [List.getD_eq_getElem?_getD, List.getElem?_eq_getElem hi]
        rfl
      rw [List.getElem?_take_of_lt (by omega), Array.getElem?_toList] at h1
      simp [World.cell?, hg, h1]
theorem own_below {e : TypeId} {w w' : World} {B : Nat} {v : Value} {zs : List Int} (h : OwnB e w B v zs) (hb : Below w.heap.size w w') : OwnB e w' B v zs := by
  obtain ⟨hl, h⟩ := h
  refine ⟨hl, ?_⟩
  rcases h with h | ⟨g, cap, cur, rfl, h1, hg, h2⟩
  · exact .inl h
  · exact .inr ⟨g, cap, cur, rfl, h1, (hb.block g (Array.getElem?_eq_some_iff.1 hg).1).trans hg, h2⟩
theorem own_le {e : TypeId} {w : World} {B B' : Nat} {v : Value} {zs : List Int} (h : OwnB e w B v zs) (hb : B' ≤ B) : OwnB e w B' v zs := by
  obtain ⟨hl, h⟩ := h
  refine ⟨hl, ?_⟩
  rcases h with h | ⟨g, cap, cur, rfl, h1, hg, h2⟩
  · exact .inl h
  · exact .inr ⟨g, cap, cur, rfl, Nat.le_trans hb h1, hg, h2⟩
theorem own_lit (e : TypeId) (w : World) (B : Nat) (zs : List Int) (n : Nat) (hn : zs.length = n) (hb : B ≤ w.heap.size) (hm : n ≤ 1048576) : OwnB e (w.alloc (.cells (zs.map (Value.int .u8)).toArray e)) B (.slice (some ⟨w.heap.size, 0, none⟩) n n) zs := by
  subst hn
  have := World.ownsRow_lit (base := B) (e := e) (size := 1) w (zs.map (Value.int .u8)).toArray zs.length hb (by unfold maxLen; omega) (by simp)
  unfold OwnB
  simpa using this
theorem own_one (e : TypeId) (w : World) (B : Nat) (z : Int) (hb : B ≤ w.heap.size) : OwnB e (w.alloc (.cells #[.int .u8 z] e)) B (.slice (some ⟨w.heap.size, 0, none⟩) 1 1) [z] := own_lit e w B [z] 1 rfl hb (by decide)

/-- From w to w' nothing was written but v's own row (v' is what became of it), and new blocks. -/
structure Kp (w w' : World) (v v' : Value) : Prop where
  os : w'.os = w.os
  tape : w'.tape = w.tape
  output : w'.output = w.output
  size : w.heap.size ≤ w'.heap.size
  block : ∀ k, k < w.heap.size → some k ≠ v.ownBlock → w'.heap[k]? = w.heap[k]?
  away : ∀ k, k < w.heap.size → some k ≠ v.ownBlock → some k ≠ v'.ownBlock
theorem Kp.refl (w : World) (v : Value) : Kp w w v v := ⟨rfl, rfl, rfl, Nat.le_refl _, fun _ _ _ => rfl, fun _ _ h => h⟩
theorem Kp.trans {w w1 w2 : World} {v v1 v2 : Value} (h : Kp w w1 v v1) (g : Kp w1 w2 v1 v2) : Kp w w2 v v2 :=
  ⟨g.os.trans h.os, g.tape.trans h.tape, g.output.trans h.output, Nat.le_trans h.size g.size, fun k hk hn => (g.block k (Nat.lt_of_lt_of_le hk h.size) (h.away k hk hn)).trans (h.block k hk hn), fun k hk hn => g.away k (Nat.lt_of_lt_of_le hk h.size) (h.away k hk hn)⟩
theorem Kp.of_below {w w1 : World} (v : Value) (h : Below w.heap.size w w1) : Kp w w1 v v := ⟨h.os, h.tape, h.output, h.size, fun k hk _ => h.block k hk, fun _ _ h => h⟩
theorem Kp.alloc {w w1 : World} {v v1 : Value} (h : Kp w w1 v v1) (o : Obj) : Kp w (w1.alloc o) v v1 := h.trans (Kp.of_below _ ((Below.refl _ _).alloc (Nat.le_refl _) _))
theorem Kp.below {e : TypeId} {w w1 : World} {v v1 : Value} {B : Nat} {zs : List Int} (h : Kp w w1 v v1) (ho : OwnB e w B v zs) (hB : B ≤ w.heap.size) : Below B w w1 := by
  refine ⟨h.os, h.tape, h.output, h.size, fun k hk => h.block k (Nat.lt_of_lt_of_le hk hB) fun hn => ?_⟩
  unfold OwnB at ho
  have := (ho.lt k hn.symm).1
  omega
theorem Kp.nil {w w1 : World} {v1 : Value} (h : Kp w w1 (.slice none 0 0) v1) : Below w.heap.size w w1 := ⟨h.os, h.tape, h.output, h.size, fun k hk => h.block k hk (by simp [Value.ownBlock])⟩
theorem Kp.of_grown {w w' : World} {v v' : Value} (h : w.grownBy w' v.ownBlock) (ha : v'.ownBlock = v.ownBlock ∨ v'.ownBlock = some w.heap.size) : Kp w w' v v' :=
  ⟨h.os, h.tape, h.output, h.size, h.block, fun k hk hn => by rcases ha with ha | ha <;> rw [ha]; exact hn; simp; omega⟩

section
variable {P : Program} {e : TypeId} {i : TypeInfo}
theorem run_row (t ty : TypeId) (ht : P.underlying t = some (.slice e)) (hi : P.info? e = some i) (hz : i.zero = some (.int .u8 0)) (hsize : i.size = 1) (hby : i.bytes = 1)
    (B : Nat) (W : World) (v u : Value) (zs xs : List Int) (hown : OwnB e W B v zs) (hB : B ≤ W.heap.size) (hu : RowB W u xs) (hlen : zs.length + xs.length ≤ 140737488355328) :
    ∃ v' w', (Builtin.append_ #[t, t] ty #[v, u]).run P W = .ok v' w' ∧ OwnB e w' B v' (zs ++ xs) ∧ Kp W w' v v' := by
  obtain ⟨ad, cap, rfl, hc, _⟩ := hu
  have hown2 := hown
  unfold OwnB at hown2
  cases ad with
  | none =>
    obtain rfl : xs = [] := by
      rcases hc with h | ⟨_, _, h, _⟩
      · exact h
      · cases h
    refine ⟨v, W, ?_, by simpa using hown, Kp.refl _ _⟩
    rcases hown2.2 with ⟨rfl, _⟩ | ⟨g, c, cur, rfl, _, _, hn, _⟩
    · exact run_append_nothing W t t ty e i ht hi none 0 0 (Nat.le_refl _) _ (Src.ofNil W ht cap)
    · exact run_append_nothing W t t ty e i ht hi _ _ _ hn _ (Src.ofNil W ht cap)
  | some ad =>
    obtain ⟨v', w', h1, h2, h3, _, h5⟩ := run_append_own_at (P := P) W B t ty e i (.int .u8 0) 1 1 ht hi hz hsize hby rfl (by decide) v zs.length _ hown2 ad xs.length cap (xs.map (Value.int .u8)) (by simp)
      (by
        intro j y hy
        rcases hc with rfl | ⟨b, off, e1, _, hb, hcell⟩
        · simp at hy
        · cases e1
          have hj : j < xs.length := by have := (List.getElem?_eq_some_iff.1 hy).1; simpa using this
          rw [addr_add, hcell j hj, ← hy, List.getElem?_map, List.getElem?_eq_getElem hj]
          unfold nth
          rw [List.getD_eq_getElem?_getD, List.getElem?_eq_getElem hj]
          rfl)
      (by intro y hy; obtain ⟨z, _, rfl⟩ := List.mem_map.1 hy; rfl) (by unfold maxLen; omega) (by omega) hB
    exact ⟨v', w', h1, by unfold OwnB; simpa using h2, Kp.of_grown h3 h5⟩
theorem run_str (t tx ty : TypeId) (ht : P.underlying t = some (.slice e)) (htx : P.underlying tx = some .string) (hi : P.info? e = some i) (hz : i.zero = some (.int .u8 0)) (hsize : i.size = 1) (hby : i.bytes = 1)
    (B : Nat) (W : World) (v : Value) (s : ByteArray) (zs : List Int) (hown : OwnB e W B v zs) (hB : B ≤ W.heap.size) (hlen : zs.length + s.size ≤ 140737488355328) :
    ∃ v' w', (Builtin.append_ #[t, tx] ty #[v, .string s]).run P W = .ok v' w' ∧ OwnB e w' B v' (zs ++ bys s) ∧ Kp W w' v v' := by
  have hown2 := hown
  unfold OwnB at hown2
  obtain ⟨v', w', h1, h2, h3, _⟩ := Lib.run_append_own_string (P := P) W B t tx ty e i ht htx hi hz hsize hby v zs.length _ hown2 s (by unfold maxLen; omega) hlen hB
  have h4 : v'.ownBlock = v.ownBlock ∨ v'.ownBlock = some W.heap.size := by
    rcases hown2.2 with ⟨rfl, h0⟩ | ⟨g, cap, cur, rfl, hbg, hg, hnc, hcm, hcs, htake⟩
    · by_cases hm : s.size = 0
      · left
        have hs0 : s = ByteArray.empty := by
          obtain ⟨d⟩ := s
          have : d = #[] := Array.eq_empty_of_size_eq_zero hm
          rw [this]; rfl
        subst hs0
        have hr := run_append_nothing (P := P) W t tx ty e i ht hi none 0 0 (Nat.le_refl _) (.string ByteArray.empty) (by rw [hsize]; exact Src.ofString W htx ByteArray.empty)
        rw [hr] at h1
        cases h1
        rfl
      · right
        have hr := run_append_nil_string (P := P) W t tx ty e i (.int .u8 0) ht htx hi hz s (by omega) (by omega) (by rw [hby]; omega)
        rw [hr] at h1
        cases h1
        rfl
    · by_cases hroom : zs.length + s.size ≤ cap
      · left
        have hr := Lib.run_append_room_string (P := P) W t tx ty e i ht htx hi hsize g zs.length cap cur hg s hroom (by omega)
        rw [hr] at h1
        cases h1
        rfl
      · right
        have holds : ∀ j u, (zs.map (Value.int .u8))[j]? = some u → W.cell? ((⟨g, 0, none⟩ : Addr).add j) = some u := hown2.cells (g := g) rfl
        have hr := Lib.run_append_grow_string (P := P) W t tx ty e i (.int .u8 0) ht htx hi hz ⟨g, 0, none⟩ zs.length cap _ (by rw [hsize]; simp) holds s (by omega) (by omega) (by rw [hby]; exact growslice_fits (by omega) (by omega))
        rw [hr] at h1
        cases h1
        rfl
  refine ⟨v', w', h1, ?_, Kp.of_grown h3 h4⟩
  unfold OwnB
  rw [List.length_append, bys_length, List.map_append, ← str_cells]
  exact h2

theorem wp_app {o : Oper} {a : Act} {K : Act → World → Prop} {Q : Exit → Act → World → Prop} {W : World} {s x : Operand} {t tx : TypeId} {v u v' : Value} {w' : World}
    (ho : o.op = .call { callee := .builtin .append, args := #[s, x], argTypes := #[t, tx] }) (hs : a.eval s = v) (hx : a.eval x = u) (hr : (Builtin.append_ #[t, tx] o.type #[v, u]).run P W = .ok v' w') (h : K (a.put o.dst v') w') : Oper.wp P o a W K Q := by
  unfold Oper.wp execOp
  simp only [ho, resolve, invoke, builtin, Sem.run_bind, Sem.run_pure, Result.andThen_ok, List.map_toArray, List.map_cons, List.map_nil, hs, hx, hr]
  exact h
variable {ops : Array Oper} {rest : List Oper} {o : Oper} {a : Act} {K : Act → World → Prop} {Q : Exit → Act → World → Prop} {E : Prop}
/-- 'append(v, u...)' at a step of a region that draws its order. -/
theorem step_row (hgd : o.guard = none) (s x : Operand) (t : TypeId) (ho : o.op = .call { callee := .builtin .append, args := #[s, x], argTypes := #[t, t] }) (ht : P.underlying t = some (.slice e)) (hi : P.info? e = some i) (hz : i.zero = some (.int .u8 0))
    (hsize : i.size = 1) (hby : i.bytes = 1) (B : Nat) (W : World) (v u : Value) (zs xs : List Int) (hs : a.eval s = v) (hx : a.eval x = u) (hown : OwnB e W B v zs) (hB : B ≤ W.heap.size) (hu : RowB W u xs) (hlen : zs.length + xs.length ≤ 140737488355328)
    (h : ∀ v' w', OwnB e w' B v' (zs ++ xs) → Kp W w' v v' → K (a.put o.dst v') w') : if Region.wanted o (yielded ops a.tmps) = true then Oper.wp P o a W K Q else E := by
  have hw : Region.wanted o (yielded ops a.tmps) = true := by simp [Region.wanted, hgd]
  rw [if_pos hw]
  obtain ⟨v', w', hr, ho', hg⟩ := run_row (P := P) t o.type ht hi hz hsize hby B W v u zs xs hown hB hu hlen
  exact wp_app ho hs hx hr (h v' w' ho' hg)
theorem step_str (hgd : o.guard = none) (s x : Operand) (t tx : TypeId) (ho : o.op = .call { callee := .builtin .append, args := #[s, x], argTypes := #[t, tx] }) (ht : P.underlying t = some (.slice e)) (htx : P.underlying tx = some .string) (hi : P.info? e = some i) (hz : i.zero = some (.int .u8 0))
    (hsize : i.size = 1) (hby : i.bytes = 1) (B : Nat) (W : World) (v : Value) (st : ByteArray) (zs : List Int) (hs : a.eval s = v) (hx : a.eval x = .string st) (hown : OwnB e W B v zs) (hB : B ≤ W.heap.size) (hlen : zs.length + st.size ≤ 140737488355328)
    (h : ∀ v' w', OwnB e w' B v' (zs ++ bys st) → Kp W w' v v' → K (a.put o.dst v') w') : if Region.wanted o (yielded ops a.tmps) = true then Oper.wp P o a W K Q else E := by
  have hw : Region.wanted o (yielded ops a.tmps) = true := by simp [Region.wanted, hgd]
  rw [if_pos hw]
  obtain ⟨v', w', hr, ho', hg⟩ := run_str (P := P) t tx o.type ht htx hi hz hsize hby B W v st zs hown hB hlen
  exact wp_app ho hs hx hr (h v' w' ho' hg)
/-- 'append(v, u...)' in a plain region. -/
theorem list_row (hgd : o.guard = none) (s x : Operand) (t : TypeId) (ho : o.op = .call { callee := .builtin .append, args := #[s, x], argTypes := #[t, t] }) (ht : P.underlying t = some (.slice e)) (hi : P.info? e = some i) (hz : i.zero = some (.int .u8 0))
    (hsize : i.size = 1) (hby : i.bytes = 1) (B : Nat) (W : World) (v u : Value) (zs xs : List Int) (hs : a.eval s = v) (hx : a.eval x = u) (hown : OwnB e W B v zs) (hB : B ≤ W.heap.size) (hu : RowB W u xs) (hlen : zs.length + xs.length ≤ 140737488355328)
    (h : ∀ v' w', OwnB e w' B v' (zs ++ xs) → Kp W w' v v' → wpList P ops Q rest (a.put o.dst v') w') : wpList P ops Q (o :: rest) a W := by
  refine wpList_plain hgd fun K hK => ?_
  obtain ⟨v', w', hr, ho', hg⟩ := run_row (P := P) t o.type ht hi hz hsize hby B W v u zs xs hown hB hu hlen
  exact wp_app ho hs hx hr (hK _ _ (h v' w' ho' hg))
theorem list_str (hgd : o.guard = none) (s x : Operand) (t tx : TypeId) (ho : o.op = .call { callee := .builtin .append, args := #[s, x], argTypes := #[t, tx] }) (ht : P.underlying t = some (.slice e)) (htx : P.underlying tx = some .string) (hi : P.info? e = some i) (hz : i.zero = some (.int .u8 0))
    (hsize : i.size = 1) (hby : i.bytes = 1) (B : Nat) (W : World) (v : Value) (st : ByteArray) (zs : List Int) (hs : a.eval s = v) (hx : a.eval x = .string st) (hown : OwnB e W B v zs) (hB : B ≤ W.heap.size) (hlen : zs.length + st.size ≤ 140737488355328)
    (h : ∀ v' w', OwnB e w' B v' (zs ++ bys st) → Kp W w' v v' → wpList P ops Q rest (a.put o.dst v') w') : wpList P ops Q (o :: rest) a W := by
  refine wpList_plain hgd fun K hK => ?_
  obtain ⟨v', w', hr, ho', hg⟩ := run_str (P := P) t tx o.type ht htx hi hz hsize hby B W v st zs hown hB hlen
  exact wp_app ho hs hx hr (hK _ _ (h v' w' ho' hg))
/-- 'append(v, x)' of one byte in a plain region. -/
theorem list_one (hgd : o.guard = none) (s x : Operand) (t : TypeId) (ho : o.op = .call { callee := .builtin .append, args := #[s, x], argTypes := #[t, t] }) (ht : P.underlying t = some (.slice e)) (hi : P.info? e = some i) (hz : i.zero = some (.int .u8 0))
    (hsize : i.size = 1) (hby : i.bytes = 1) (B : Nat) (W : World) (v : Value) (z : Int) (zs : List Int) (hs : a.eval s = v) (hx : a.eval x = .slice (some ⟨W.heap.size, 0, none⟩) 1 1) (hown : OwnB e W B v zs) (hB : B ≤ W.heap.size) (hz' : 0 ≤ z ∧ z ≤ 255) (hlen : zs.length + 1 ≤ 140737488355328)
    (h : ∀ v' w', OwnB e w' B v' (zs ++ [z]) → Kp W w' v v' → wpList P ops Q rest (a.put o.dst v') w') : wpList P ops Q (o :: rest) a (W.alloc (.cells #[.int .u8 z] e)) := by
  have h0 : OwnB e (W.alloc (.cells #[.int .u8 z] e)) B v zs := by unfold OwnB at hown ⊢; exact hown.alloc _
  refine list_row hgd s x t ho ht hi hz hsize hby B _ v _ zs [z] hs hx h0 (by simp; omega) (own_rowB (own_one e W W.heap.size z (Nat.le_refl _)) (by intro y hy; simp at hy; subst hy; exact hz')) hlen ?_
  intro v' w' h1 h2
  exact h v' w' h1 (((Kp.refl _ _).alloc _).trans h2)
end
theorem rowB_alloc {w : World} {v : Value} {xs : List Int} (h : RowB w v xs) (o : Obj) : RowB (w.alloc o) v xs := h.below ((Below.refl _ _).alloc (Nat.le_refl _) _)
theorem own_alloc {e : TypeId} {w : World} {B : Nat} {v : Value} {xs : List Int} (h : OwnB e w B v xs) (o : Obj) : OwnB e (w.alloc o) B v xs := own_below h ((Below.refl _ _).alloc (Nat.le_refl _) _)
/-- A byte that was laid ahead of a call, behind it; and what the call left alone. -/
theorem ordA {w0 w1 : World} {B : Nat} {z : Int} {e : TypeId} (hB : B = w0.heap.size) (b1 : Below (w0.alloc (.cells #[.int .u8 z] e)).drew.heap.size (w0.alloc (.cells #[.int .u8 z] e)).drew w1) :
    OwnB e w1 B (.slice (some ⟨B, 0, none⟩) 1 1) [z] ∧ Below B w0 w1 ∧ B ≤ w1.heap.size := by
  subst hB
  have h0 : Below w0.heap.size w0 (w0.alloc (.cells #[.int .u8 z] e)).drew := ((Below.refl _ _).alloc (Nat.le_refl _) _).drew
  have h1 : Below w0.heap.size w0 w1 := h0.trans (b1.mono h0.size)
  exact ⟨own_below (w := (w0.alloc (.cells #[.int .u8 z] e)).drew) (own_one e w0 w0.heap.size z (Nat.le_refl _)) b1, h1, h1.size⟩
theorem ordB {w0 w1 : World} {B : Nat} (hB : B = w0.heap.size) (b1 : Below w0.drew.heap.size w0.drew w1) : Below B w0 w1 ∧ B ≤ w1.heap.size := by
  subst hB
  have h0 : Below w0.heap.size w0 w0.drew := (Below.refl _ _).drew
  have h1 : Below w0.heap.size w0 w1 := h0.trans b1
  exact ⟨h1, h1.size⟩
theorem own_kp {e : TypeId} {w w' : World} {B' : Nat} {u v v' : Value} {xs : List Int} (h : OwnB e w B' u xs) (hk : Kp w w' v v') (hb : ∀ g, v.ownBlock = some g → g < B') : OwnB e w' B' u xs := by
  obtain ⟨hl, h⟩ := h
  refine ⟨hl, ?_⟩
  rcases h with h | ⟨g, cap, cur, rfl, h1, hg, h2⟩
  · exact .inl h
  · refine .inr ⟨g, cap, cur, rfl, h1, (hk.block g (Array.getElem?_eq_some_iff.1 hg).1 fun hn => ?_).trans hg, h2⟩
    have := hb g hn.symm
    omega
theorem own_lt {e : TypeId} {w : World} {B : Nat} {v : Value} {xs : List Int} (h : OwnB e w B v xs) : ∀ g, v.ownBlock = some g → g < w.heap.size := by
  intro g hg
  unfold OwnB at h
  exact (h.lt g hg).2
theorem ordA2 {w0 wc w1 : World} {B : Nat} {z : Int} {e : TypeId} {v : Value} {zs : List Int} (o1 : OwnB e wc B v zs) (g1 : Below B w0 wc) (hB : B ≤ wc.heap.size) (b1 : Below (wc.alloc (.cells #[.int .u8 z] e)).drew.heap.size (wc.alloc (.cells #[.int .u8 z] e)).drew w1) :
    OwnB e w1 wc.heap.size (.slice (some ⟨wc.heap.size, 0, none⟩) 1 1) [z] ∧ OwnB e w1 B v zs ∧ Below B w0 w1 ∧ B ≤ w1.heap.size := by
  obtain ⟨h1, h2, h3⟩ := ordA rfl b1
  exact ⟨h1, own_below o1 h2, g1.trans (h2.mono hB), Nat.le_trans hB h3⟩
theorem ordB2 {w0 wc w1 : World} {B : Nat} {e : TypeId} {v : Value} {zs : List Int} (o1 : OwnB e wc B v zs) (g1 : Below B w0 wc) (hB : B ≤ wc.heap.size) (b1 : Below wc.drew.heap.size wc.drew w1) :
    OwnB e w1 B v zs ∧ Below B w0 w1 ∧ B ≤ w1.heap.size := by
  obtain ⟨h2, h3⟩ := ordB rfl b1
  exact ⟨own_below o1 h2, g1.trans (h2.mono hB), Nat.le_trans hB h3⟩
theorem ordC {w0 w2 w3 : World} {B : Nat} {e : TypeId} {v : Value} {zs : List Int} (o1 : OwnB e w2 B v zs) (g1 : Below B w0 w2) (hB : B ≤ w2.heap.size) (b1 : Below w2.heap.size w2 w3) :
    OwnB e w3 B v zs ∧ Below B w0 w3 ∧ B ≤ w3.heap.size := ⟨own_below o1 b1, g1.trans (b1.mono hB), Nat.le_trans hB b1.size⟩
theorem one_range {z : Int} (h : 0 ≤ z ∧ z ≤ 255) : ∀ y ∈ [z], 0 ≤ y ∧ y ≤ 255 := by intro y hy; simp at hy; subst hy; exact h
theorem wrap_range (x : Int) : 0 ≤ IntKind.u8.wrap x ∧ IntKind.u8.wrap x ≤ 255 := by rw [IntKind.wrap_u8]; omega
theorem own_drew {e : TypeId} {w : World} {B : Nat} {v : Value} {xs : List Int} (h : OwnB e w B v xs) : OwnB e w.drew B v xs := h
theorem rowB_drew {w : World} {v : Value} {xs : List Int} (h : RowB w v xs) : RowB w.drew v xs := h
end Go.Proofs.Ytlhokhccjejcoaa.Ap
