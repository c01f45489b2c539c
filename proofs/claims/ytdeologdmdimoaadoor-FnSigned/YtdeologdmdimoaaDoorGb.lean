/- Batches that the source draws. -/
import Derived.Test.YtdeologdmdimoaaDoorGd
import Derived.Test.YtdeologdmdimoaaDoorTkb
import Derived.Test.YtdeologdmdimoaaDoorShaL
import Derived.Test.YtdeologdmdimoaaDoorBt
namespace Go.Proofs.YtdeologdmdimoaaDoor.Gn
open Go.RowKit Go.Proofs.YtdeologdmdimoaaDoor.Sl Go.Proofs.YtdeologdmdimoaaDoor.By Go.Proofs.YtdeologdmdimoaaDoor.Ap Go.Proofs.YtdeologdmdimoaaDoor.Rq Go.Proofs.YtdeologdmdimoaaDoor.Rr Go.Proofs.YtdeologdmdimoaaDoor.Ty Go.Proofs.YtdeologdmdimoaaDoor.Gr Go.Proofs.YtdeologdmdimoaaDoor.Bo Go.Proofs.YtdeologdmdimoaaDoor.Tkb
open Go.Proofs.YtdeologdmdimoaaDoor.Rg (RowG RowG.slice RowG.at lt_at mem_at bel_new)

theorem sha_size (ys : List Int) : (strOfNums (Sh.sha ys)).size = 32 := by
  rw [strOfNums_size]
  show (Sh.outTo _ 8).length = 32
  rw [Sh.outTo_length]
/-- A hash of one byte: a text of 32 bytes. -/
theorem hash1_any (x : Int) (w : World) (h0 : 0 ≤ x ∧ x ≤ 255) (g : Nat) (hg : w.heap[g]? = some (.cells #[.int .u8 x] 5 (0, 0))) :
    Calls Tryd.prog 43 #[.slice (some ⟨g, 0, none⟩) 1 1] w fun e w' => ∃ s : ByteArray, e = .returned (.string s) ∧ s.size = 32 ∧ Below w.heap.size w w' := by
  have hr : RowB w (.slice (some ⟨g, 0, none⟩) 1 1) [x] := ⟨some ⟨g, 0, none⟩, 1, rfl, .inr ⟨g, 0, rfl, by simp, (Array.getElem?_eq_some_iff.1 hg).1, fun i hi => by
    obtain rfl : i = 0 := by simp at hi; exact hi
    exact (blk_cell hg 0 (x := .int .u8 x) rfl).1⟩, fun z hz => by simp at hz; subst hz; exact h0⟩
  refine (Sh.l01Hash_any _ [x] w hr (by simp)).mono ?_
  rintro e w' ⟨rfl, b⟩
  exact ⟨_, rfl, sha_size _, b⟩

/-- While a batch is drawn: its box x, the answer's box, the readings so far (in blocks from y on), the source. -/
structure Tc (w w' : World) (p B x y : Nat) (a1 a2 a3 a4 a5 : Value) (v : Value) (ms : List Rd) (xs : List Int) (K : Nat) : Prop where
  hx : w'.heap[x]? = some (.cells #[.bool false, a1, a2, a3, a4, a5, v] 73 (0, 0))
  ha : w'.heap[w.heap.size]? = some (.cells #[.bool false, .int .i64 0, .int .i64 0, .int .i64 0, .int .i64 0, .string ⟨#[]⟩, .slice none 0 0] 73 (0, 0))
  own : OwnR w' y v ms
  rd : Src B w' p xs K
  gr : w.grownBy w' (some p)
  lt : w.heap.size < x ∧ w.heap.size < y ∧ y ≤ x ∧ p < w.heap.size ∧ B ≤ p
theorem Tc.drew {w w' : World} {p B x y : Nat} {a1 a2 a3 a4 a5 v : Value} {ms : List Rd} {xs : List Int} {K : Nat} (h : Tc w w' p B x y a1 a2 a3 a4 a5 v ms xs K) : Tc w w'.drew p B x y a1 a2 a3 a4 a5 v ms xs K :=
  ⟨h.hx, h.ha, h.own, h.rd, ⟨h.gr.os, h.gr.tape, h.gr.output, h.gr.size, h.gr.block⟩, h.lt⟩
theorem Tc.grown {w w' w2 : World} {p B x y : Nat} {a1 a2 a3 a4 a5 v : Value} {ms : List Rd} {xs : List Int} {K K2 : Nat} (h : Tc w w' p B x y a1 a2 a3 a4 a5 v ms xs K) (hg : w'.grownBy w2 (some p)) (hr : Src B w2 p xs K2) : Tc w w2 p B x y a1 a2 a3 a4 a5 v ms xs K2 :=
  ⟨blk_kept h.hx hg (by have := h.lt; omega), blk_kept h.ha hg (by have := h.lt; omega), own_kept h.own hg (by have := h.lt; omega), hr, grown_trans h.gr hg, h.lt⟩
theorem Tc.below {w w' w2 : World} {p B x y : Nat} {a1 a2 a3 a4 a5 v : Value} {ms : List Rd} {xs : List Int} {K : Nat} (h : Tc w w' p B x y a1 a2 a3 a4 a5 v ms xs K) (hb : Below w'.heap.size w' w2) : Tc w w2 p B x y a1 a2 a3 a4 a5 v ms xs K :=
  h.grown ⟨hb.os, hb.tape, hb.output, hb.size, fun k hk _ => hb.block k hk⟩ (h.rd.kept (hb.block p h.rd.lt) (fun k hk => hb.block k (by have := h.rd.lt; have := h.lt; omega)))
theorem Tc.alloc {w w' : World} {p B x y : Nat} {a1 a2 a3 a4 a5 v : Value} {ms : List Rd} {xs : List Int} {K : Nat} (h : Tc w w' p B x y a1 a2 a3 a4 a5 v ms xs K) (o : Obj) : Tc w (w'.alloc o) p B x y a1 a2 a3 a4 a5 v ms xs K :=
  h.below (bel_new _ _)
theorem Tc.c6 {w w' : World} {p B x y : Nat} {a1 a2 a3 a4 a5 v : Value} {ms : List Rd} {xs : List Int} {K : Nat} (h : Tc w w' p B x y a1 a2 a3 a4 a5 v ms xs K) : w'.cell? ⟨x, 6, none⟩ = some v := (blk_cell h.hx 6 (x := v) rfl).1
structure Te (w w' : World) (p B x y : Nat) (a1 a2 a3 a4 a5 : Value) (v v' : Value) (ms : List Rd) (xs : List Int) (K : Nat) : Prop where
  hx : w'.heap[x]? = some (.cells #[.bool false, a1, a2, a3, a4, a5, v] 73 (0, 0))
  ha : w'.heap[w.heap.size]? = some (.cells #[.bool false, .int .i64 0, .int .i64 0, .int .i64 0, .int .i64 0, .string ⟨#[]⟩, .slice none 0 0] 73 (0, 0))
  own : OwnR w' y v' ms
  rd : Src B w' p xs K
  gr : w.grownBy w' (some p)
  lt : w.heap.size < x ∧ w.heap.size < y ∧ y ≤ x ∧ p < w.heap.size ∧ B ≤ p
theorem Te.c6 {w w' : World} {p B x y : Nat} {a1 a2 a3 a4 a5 v v' : Value} {ms : List Rd} {xs : List Int} {K : Nat} (h : Te w w' p B x y a1 a2 a3 a4 a5 v v' ms xs K) : w'.cell? ⟨x, 6, none⟩ = some v ∧ w'.frozen? ⟨x, 6, none⟩ = false := blk_cell h.hx 6 (x := v) rfl
theorem Te.set {w w' : World} {p B x y : Nat} {a1 a2 a3 a4 a5 v v' : Value} {ms : List Rd} {xs : List Int} {K : Nat} (h : Te w w' p B x y a1 a2 a3 a4 a5 v v' ms xs K) : Tc w (w'.setCell ⟨x, 6, none⟩ v') p B x y a1 a2 a3 a4 a5 v' ms xs K :=
  ⟨blk_set h.hx 6 v', (blk_far (by have := h.lt; omega) 6 v').trans h.ha, h.own.kept (fun g hg => blk_far (fun e => own_ne h.own h.hx (by rw [hg, e])) 6 v'), Src.set h.rd (by have := h.lt; omega) (by have := h.lt; omega) 6 v', grown_new h.gr (by have := h.lt; omega) 6 v', h.lt⟩
theorem step_tc {P : Program} {ops : Array Oper} {o : Oper} {a : Act} {K : Act → World → Prop} {Q : Exit → Act → World → Prop} {E : Prop} {i : TypeInfo} (hgd : o.guard = none) (s z : Operand) (t : TypeId) (ho : o.op = .call { callee := .builtin .append, args := #[s, z], argTypes := #[t, t] }) (ht : P.underlying t = some (.slice 40)) (hi : P.info? 40 = some i) (hz : i.zero = some (.agg #[.int .i64 0, .int .i64 0, .string ⟨#[]⟩]))
    (hsize : i.size = 3) (hby : i.bytes = 32) (W w : World) (p B x y : Nat) (a1 a2 a3 a4 a5 v : Value) (ms : List Rd) (xs : List Int) (K0 : Nat) (m : Rd) (hs : a.eval s = v) (gx : Nat) (hx : a.eval z = .slice (some ⟨gx, 0, none⟩) 1 1) (hbx : W.heap[gx]? = some (.cells #[.int .i64 m.f, .int .i64 m.x, .string m.m] 40 (0, 0)))
    (htb : Tc w W p B x y a1 a2 a3 a4 a5 v ms xs K0) (hlen : ms.length ≤ 1000000)
    (h : ∀ v' w', Te w w' p B x y a1 a2 a3 a4 a5 v v' (ms ++ [m]) xs K0 → K (a.put o.dst v') w') : if Region.wanted o (yielded ops a.tmps) = true then Oper.wp P o a W K Q else E := by
  have hw : Region.wanted o (yielded ops a.tmps) = true := by simp [Region.wanted, hgd]
  rw [if_pos hw]
  have hxl := (Array.getElem?_eq_some_iff.1 htb.hx).1
  obtain ⟨v', w', hr, h2, h3, _, h5⟩ := run_append_own_at (P := P) W y t o.type 40 i _ 3 32 ht hi hz hsize hby rfl (by decide) v ms.length _ htb.own ⟨gx, 0, none⟩ 1 1 (cl m) rfl (by
    intro j u hj
    have e2 : (⟨gx, 0, none⟩ : Addr).add j = ⟨gx, j, none⟩ := by unfold Addr.add; split <;> simp_all
    rw [e2, Joins.cell_of_block hbx, ← hj]
    simp [cl]) (cl_one m) (by unfold maxLen; omega) (by have := htb.lt; omega) (by have := htb.lt; omega)
  have far : ∀ k, k < y ∨ k = x → k < W.heap.size → w'.heap[k]? = W.heap[k]? := fun k hk hkl => h3.block k hkl (fun e => by
    rcases hk with hk | rfl
    · have := (htb.own.lt k e.symm).1; omega
    · exact own_ne htb.own htb.hx e)
  refine wp_app ho hs hx hr (h v' w' ⟨(far x (.inr rfl) hxl).trans htb.hx, (far _ (.inl (by have := htb.lt; omega)) (Nat.lt_of_lt_of_le htb.lt.1 (Nat.le_of_lt hxl))).trans htb.ha, by unfold OwnR; rw [List.flatMap_append, List.length_append]; simpa using h2, htb.rd.kept (far p (.inl (by have := htb.lt; omega)) htb.rd.lt) (fun k hk => far k (.inl (by have := htb.lt; omega)) (by have := htb.lt; have := htb.rd.lt; omega)), ⟨h3.os.trans htb.gr.os, h3.tape.trans htb.gr.tape, h3.output.trans htb.gr.output, Nat.le_trans htb.gr.size h3.size, fun k hk hn => (far k (.inl (by have := htb.lt; omega)) (Nat.lt_of_lt_of_le hk htb.gr.size)).trans (htb.gr.block k hk hn)⟩, htb.lt⟩)

theorem rOK_snoc (m : Rd) (hm : m.f ≤ 6 ∧ 0 ≤ m.x ∧ m.x ≤ 1000000000 ∧ m.m.size = 8) : ∀ (ms : List Rd) (l : Int), rOK l ms = true → (∀ x ∈ ms, x.f < m.f) → l ≤ m.f → rOK l (ms ++ [m]) = true
  | [], l, _, _, hl => by
    show (r1 l m && true) = true
    have h1 : inB m.f l 6 = true := decide_eq_true ⟨hl, hm.1⟩
    have h2 : inB m.x 0 1000000000 = true := decide_eq_true ⟨hm.2.1, hm.2.2.1⟩
    unfold r1
    rw [h1, h2, hm.2.2.2]
    rfl
  | y :: ys, l, h, hx, hl => by
    have h' : (r1 l y && rOK (y.f + 1) ys) = true := h
    rw [Bool.and_eq_true] at h'
    show (r1 l y && rOK (y.f + 1) (ys ++ [m])) = true
    rw [h'.1, rOK_snoc m hm ys (y.f + 1) h'.2 (fun x hx' => hx x (List.mem_cons_of_mem _ hx')) (by have := hx y (by simp); omega)]
    rfl

theorem own_set {w : World} {B b : Nat} {v : Value} {ms : List Rd} (h : OwnR w B v ms) (hb : b < B) (i : Nat) (x : Value) : OwnR (w.setCell ⟨b, i, none⟩ x) B v ms :=
  h.kept fun g hg => blk_far (by have := (h.lt g hg).1; omega) i x

theorem null_ok : bOK true 0 0 0 0 ⟨#[]⟩ [] = true := by
  have hz : zB 0 0 0 0 ⟨#[]⟩ = true := by unfold zB; simp
  show (zB 0 0 0 0 ⟨#[]⟩ && ((([] : List Rd).length : Int) == 0)) = true
  rw [hz]
  rfl
set_option maxRecDepth 100000 in
set_option maxHeartbeats 3200000 in
/-- A batch that is drawn. -/
theorem batch_any (p B K : Nat) (xs : List Int) (w : World) (h : Src B w p xs K) (hB : B ≤ p) (hK : K ≤ 100000) (hxl : xs.length ≤ 1048576) :
    Calls Tryd.prog 45 #[.pointer (some ⟨p, 0, none⟩)] w fun e w' => ∃ (nl : Bool) (c st k l : Int) (n : ByteArray) (v : Value) (rs : List Rd), e = .returned (batV nl c st k l n v) ∧ bOK nl c st k l n rs = true ∧ (nl = true → c = 0 ∧ st = 0 ∧ k = 0 ∧ l = 0 ∧ n = ⟨#[]⟩ ∧ rs = []) ∧ OwnR w' w.heap.size v rs ∧ Src B w' p xs (K + 14) ∧ w.grownBy w' (some p) := by
  have hp := h.lt
  have G0 : Hid (w.grownBy (w.alloc (.cells #[.bool false, .int .i64 0, .int .i64 0, .int .i64 0, .int .i64 0, .string ⟨#[]⟩, .slice none 0 0] 73)) (some p)) := grown_alloc (grown_refl _ _) _
  have A0 : Hid ((w.alloc (.cells #[.bool false, .int .i64 0, .int .i64 0, .int .i64 0, .int .i64 0, .string ⟨#[]⟩, .slice none 0 0] 73)).heap[w.heap.size]? = some (.cells #[.bool false, .int .i64 0, .int .i64 0, .int .i64 0, .int .i64 0, .string ⟨#[]⟩, .slice none 0 0] 73 (0, 0))) := blk_new _ _ _
  have S0 : Hid (Src B (w.alloc (.cells #[.bool false, .int .i64 0, .int .i64 0, .int .i64 0, .int .i64 0, .string ⟨#[]⟩, .slice none 0 0] 73)) p xs K) := h.alloc hB _
  have NUL : Hid (bOK true 0 0 0 0 ⟨#[]⟩ [] = true) := null_ok
  obtain ⟨i0, hi0, hz0, hz1, hz2⟩ := info_parts info_r
  clear h
  go_enter Tryd.func45, Tryd.ntmps45
  go_wp2_with fail
  refine (chance_any 6 p B K xs _ S0.out hB (by omega) hxl (by decide) (by decide)).mono ?_
  rintro e w1 ⟨b, rfl, s1, g1⟩
  clear S0
  cases b with
  | true =>
    have a1 := blk_kept A0.out g1 (by omega)
    have l1 : w.heap.size < w1.heap.size := (Array.getElem?_eq_some_iff.1 a1).1
    have A1 : Hid (w1.heap[w.heap.size]? = some (.cells #[.bool false, .int .i64 0, .int .i64 0, .int .i64 0, .int .i64 0, .string ⟨#[]⟩, .slice none 0 0] 73 (0, 0))) := a1
    have S1 : Hid (Src B w1 p xs (K + 1)) := s1
    have G1 : Hid (w.grownBy w1 (some p)) := grown_trans G0.out g1
    have lne : w.heap.size ≠ w1.heap.size := by omega
    clear s1 g1 G0 A0 a1
    obtain ⟨ca0, fa0⟩ := blk_cell A1.out 0 (x := .bool false) rfl
    obtain ⟨ca1, fa1⟩ := blk_cell A1.out 1 (x := .int .i64 0) rfl
    obtain ⟨ca2, fa2⟩ := blk_cell A1.out 2 (x := .int .i64 0) rfl
    obtain ⟨ca3, fa3⟩ := blk_cell A1.out 3 (x := .int .i64 0) rfl
    obtain ⟨ca4, fa4⟩ := blk_cell A1.out 4 (x := .int .i64 0) rfl
    obtain ⟨ca5, fa5⟩ := blk_cell A1.out 5 (x := .string ⟨#[]⟩) rfl
    obtain ⟨ca6, fa6⟩ := blk_cell A1.out 6 (x := .slice none 0 0) rfl
    have hsz : ((((((((w1.setCell ⟨w.heap.size, 0, none⟩ (.bool true)).setCell ⟨w.heap.size, 1, none⟩ (.int .i64 0)).setCell ⟨w.heap.size, 2, none⟩ (.int .i64 0)).setCell ⟨w.heap.size, 3, none⟩ (.int .i64 0)).setCell ⟨w.heap.size, 4, none⟩ (.int .i64 0)).setCell ⟨w.heap.size, 5, none⟩ (.string ⟨#[]⟩)).setCell ⟨w.heap.size, 6, none⟩ (.slice (some ⟨w1.heap.size, 0, none⟩) 0 0))).heap.size = w1.heap.size := by simp
    have AF : ((((((((w1.setCell ⟨w.heap.size, 0, none⟩ (.bool true)).setCell ⟨w.heap.size, 1, none⟩ (.int .i64 0)).setCell ⟨w.heap.size, 2, none⟩ (.int .i64 0)).setCell ⟨w.heap.size, 3, none⟩ (.int .i64 0)).setCell ⟨w.heap.size, 4, none⟩ (.int .i64 0)).setCell ⟨w.heap.size, 5, none⟩ (.string ⟨#[]⟩)).setCell ⟨w.heap.size, 6, none⟩ (.slice (some ⟨w1.heap.size, 0, none⟩) 0 0)).alloc (.cells #[] 40)).heap[w.heap.size]? = some (.cells #[.bool true, .int .i64 0, .int .i64 0, .int .i64 0, .int .i64 0, .string ⟨#[]⟩, .slice (some ⟨w1.heap.size, 0, none⟩) 0 0] 73 (0, 0)) := (Below.heap_alloc _ _ _ (by rw [hsz]; exact l1)).trans (blk_set (blk_set (blk_set (blk_set (blk_set (blk_set (blk_set A1.out 0 (.bool true)) 1 (.int .i64 0)) 2 (.int .i64 0)) 3 (.int .i64 0)) 4 (.int .i64 0)) 5 (.string ⟨#[]⟩)) 6 (.slice (some ⟨w1.heap.size, 0, none⟩) 0 0))
    have GF : Hid (w.grownBy ((((((((w1.setCell ⟨w.heap.size, 0, none⟩ (.bool true)).setCell ⟨w.heap.size, 1, none⟩ (.int .i64 0)).setCell ⟨w.heap.size, 2, none⟩ (.int .i64 0)).setCell ⟨w.heap.size, 3, none⟩ (.int .i64 0)).setCell ⟨w.heap.size, 4, none⟩ (.int .i64 0)).setCell ⟨w.heap.size, 5, none⟩ (.string ⟨#[]⟩)).setCell ⟨w.heap.size, 6, none⟩ (.slice (some ⟨w1.heap.size, 0, none⟩) 0 0)).alloc (.cells #[] 40)) (some p)) := grown_alloc (grown_new (grown_new (grown_new (grown_new (grown_new (grown_new (grown_new G1.out (Nat.le_refl _) 0 (.bool true)) (Nat.le_refl _) 1 (.int .i64 0)) (Nat.le_refl _) 2 (.int .i64 0)) (Nat.le_refl _) 3 (.int .i64 0)) (Nat.le_refl _) 4 (.int .i64 0)) (Nat.le_refl _) 5 (.string ⟨#[]⟩)) (Nat.le_refl _) 6 (.slice (some ⟨w1.heap.size, 0, none⟩) 0 0)) _
    have SF : Hid (Src B ((((((((w1.setCell ⟨w.heap.size, 0, none⟩ (.bool true)).setCell ⟨w.heap.size, 1, none⟩ (.int .i64 0)).setCell ⟨w.heap.size, 2, none⟩ (.int .i64 0)).setCell ⟨w.heap.size, 3, none⟩ (.int .i64 0)).setCell ⟨w.heap.size, 4, none⟩ (.int .i64 0)).setCell ⟨w.heap.size, 5, none⟩ (.string ⟨#[]⟩)).setCell ⟨w.heap.size, 6, none⟩ (.slice (some ⟨w1.heap.size, 0, none⟩) 0 0)).alloc (.cells #[] 40)) p xs (K + 1)) := Src.alloc (Src.set (Src.set (Src.set (Src.set (Src.set (Src.set (Src.set S1.out (by omega) (by omega) 0 (.bool true)) (by omega) (by omega) 1 (.int .i64 0)) (by omega) (by omega) 2 (.int .i64 0)) (by omega) (by omega) 3 (.int .i64 0)) (by omega) (by omega) 4 (.int .i64 0)) (by omega) (by omega) 5 (.string ⟨#[]⟩)) (by omega) (by omega) 6 (.slice (some ⟨w1.heap.size, 0, none⟩) 0 0)) hB _
    have OF : Hid (OwnR ((((((((w1.setCell ⟨w.heap.size, 0, none⟩ (.bool true)).setCell ⟨w.heap.size, 1, none⟩ (.int .i64 0)).setCell ⟨w.heap.size, 2, none⟩ (.int .i64 0)).setCell ⟨w.heap.size, 3, none⟩ (.int .i64 0)).setCell ⟨w.heap.size, 4, none⟩ (.int .i64 0)).setCell ⟨w.heap.size, 5, none⟩ (.string ⟨#[]⟩)).setCell ⟨w.heap.size, 6, none⟩ (.slice (some ⟨w1.heap.size, 0, none⟩) 0 0)).alloc (.cells #[] 40)) (w.heap.size + 1) (.slice (some ⟨w1.heap.size, 0, none⟩) 0 0) []) := by have h9 := OwnR.made (((((((w1.setCell ⟨w.heap.size, 0, none⟩ (.bool true)).setCell ⟨w.heap.size, 1, none⟩ (.int .i64 0)).setCell ⟨w.heap.size, 2, none⟩ (.int .i64 0)).setCell ⟨w.heap.size, 3, none⟩ (.int .i64 0)).setCell ⟨w.heap.size, 4, none⟩ (.int .i64 0)).setCell ⟨w.heap.size, 5, none⟩ (.string ⟨#[]⟩)).setCell ⟨w.heap.size, 6, none⟩ (.slice (some ⟨w1.heap.size, 0, none⟩) 0 0)) (w.heap.size + 1) (by rw [hsz]; exact l1); rw [hsz] at h9; exact h9
    clear hsz
    go_wp2_with fail
    generalize (((((((w1.setCell ⟨w.heap.size, 0, none⟩ (.bool true)).setCell ⟨w.heap.size, 1, none⟩ (.int .i64 0)).setCell ⟨w.heap.size, 2, none⟩ (.int .i64 0)).setCell ⟨w.heap.size, 3, none⟩ (.int .i64 0)).setCell ⟨w.heap.size, 4, none⟩ (.int .i64 0)).setCell ⟨w.heap.size, 5, none⟩ (.string ⟨#[]⟩)).setCell ⟨w.heap.size, 6, none⟩ (.slice (some ⟨w1.heap.size, 0, none⟩) 0 0)).alloc (.cells #[] 40) = wf at AF GF SF OF ⊢
    have d0 := (blk_cell AF 0 (x := .bool true) rfl).1
    have d1 := (blk_cell AF 1 (x := .int .i64 0) rfl).1
    have d2 := (blk_cell AF 2 (x := .int .i64 0) rfl).1
    have d3 := (blk_cell AF 3 (x := .int .i64 0) rfl).1
    have d4 := (blk_cell AF 4 (x := .int .i64 0) rfl).1
    have d5 := (blk_cell AF 5 (x := .string ⟨#[]⟩) rfl).1
    have d6 := (blk_cell AF 6 (x := .slice (some ⟨w1.heap.size, 0, none⟩) 0 0) rfl).1
    exact bodyPost_ret (v := batV true 0 0 0 0 ⟨#[]⟩ (.slice (some ⟨w1.heap.size, 0, none⟩) 0 0)) (by simp [batV, results, Tryd.results45, go_sem, d0, d1, d2, d3, d4, d5, d6]) rfl ⟨true, 0, 0, 0, 0, ⟨#[]⟩, _, [], rfl, NUL.out, fun _ => ⟨rfl, rfl, rfl, rfl, rfl, rfl⟩, OwnR.mono OF.out (by omega), SF.out.le (by omega), GF.out⟩
  | false =>
    clear NUL
    have A1 : Hid (w1.heap[w.heap.size]? = some (.cells #[.bool false, .int .i64 0, .int .i64 0, .int .i64 0, .int .i64 0, .string ⟨#[]⟩, .slice none 0 0] 73 (0, 0))) := blk_kept A0.out g1 (by omega)
    have S1 : Hid (Src B w1 p xs (K + 1)) := s1
    have G1 : Hid (w.grownBy w1 (some p)) := grown_trans G0.out g1
    clear s1 g1 G0 A0
    go_wp2_with fail
    refine (request_any p B (K + 1) xs _ S1.out hB (by omega) hxl).mono ?_
    rintro e w2 ⟨c, st, k, l, n, rfl, hq, s2, g2⟩
    have a2 := blk_kept A1.out g2 (by omega)
    have l2 : w.heap.size < w2.heap.size := (Array.getElem?_eq_some_iff.1 a2).1
    have HQ : Hid (reqB c st k l n = true) := hq
    have T0 : Hid (Tc w ((w2.alloc (.cells #[] 40)).alloc (.cells #[.bool false, .int .i64 c, .int .i64 st, .int .i64 k, .int .i64 l, .string n, .slice (some ⟨w2.heap.size, 0, none⟩) 0 0] 73)) p B (w2.heap.size + 1) (w.heap.size + 1) (.int .i64 c) (.int .i64 st) (.int .i64 k) (.int .i64 l) (.string n) (.slice (some ⟨w2.heap.size, 0, none⟩) 0 0) [] xs (K + 6)) := by
      refine ⟨?_, ?_, ?_, ?_, ?_, ?_⟩
      · have := blk_new (w2.alloc (.cells #[] 40)) #[.bool false, .int .i64 c, .int .i64 st, .int .i64 k, .int .i64 l, .string n, .slice (some ⟨w2.heap.size, 0, none⟩) 0 0] 73
        rw [size_new] at this
        exact this
      · exact ((Below.heap_alloc _ _ _ (by rw [size_new]; omega)).trans (Below.heap_alloc _ _ _ l2)).trans a2
      · exact (OwnR.made w2 (w.heap.size + 1) l2).alloc _
      · exact (s2.alloc hB _).alloc hB _
      · exact grown_alloc (grown_alloc (grown_trans G1.out g2) _) _
      · exact ⟨by omega, by omega, by omega, hp, hB⟩
    clear a2 s2 g2 A1 S1 G1 hq
    go_upto_region 4 with fail
    generalize (w2.alloc (.cells #[] 40)).alloc (.cells #[.bool false, .int .i64 c, .int .i64 st, .int .i64 k, .int .i64 l, .string n, .slice (some ⟨w2.heap.size, 0, none⟩) 0 0] 73) = w3 at T0 ⊢
    generalize w2.heap.size + 1 = x at T0 ⊢
    go_wp2_with fail
    go_loopw [4] (fun i wr => ∃ (j : Nat) (v : Value) (ms : List Rd), j ≤ 4 ∧ i = .int .i64 (j : Int) ∧ Hid (Tc w wr p B x (w.heap.size + 1) (.int .i64 c) (.int .i64 st) (.int .i64 k) (.int .i64 l) (.string n) v ms xs (K + 6 + 2 * j)) ∧ Hid (rOK 0 ms = true ∧ (∀ m ∈ ms, m.f < (j : Int)) ∧ ms.length ≤ j)) (fun i _ => 4 - (intOf i).toNat)
    case atStart => exact ⟨0, _, [], by omega, rfl, T0, ⟨rfl, fun m hm => by (cases hm), Nat.zero_le _⟩⟩
    case round =>
      clear T0
      obtain ⟨j, v, ms, hj, rfl, HT, HO⟩ := hrel
      by_cases hlt : j < 4
      · have hlt' : (j : Int) < 4 := by omega
        go_wp2_with fail
        refine (chance_any 4 p B (K + 6 + 2 * j) xs _ HT.out.rd hB (by omega) hxl (by decide) (by decide)).mono ?_
        rintro e w4 ⟨b, rfl, s4, g4⟩
        have T4 := HT.out.grown g4 s4
        clear HT s4 g4
        cases b with
        | true =>
          have T5 : Hid (Tc w w4 p B x (w.heap.size + 1) (.int .i64 c) (.int .i64 st) (.int .i64 k) (.int .i64 l) (.string n) v ms xs (K + 6 + 2 * (j + 1))) := ⟨T4.hx, T4.ha, T4.own, T4.rd.le (by omega), T4.gr, T4.lt⟩
          clear T4
          go_wp2_with fail
          exact ⟨⟨j + 1, v, ms, by omega, by go_num, T5, ⟨HO.out.1, fun m hm => by have := HO.out.2.1 m hm; omega, by have := HO.out.2.2; omega⟩⟩, by simp [intOf]; omega⟩
        | false =>
          obtain ⟨ap, cp, rfl⟩ := RowG.slice (OwnR.row T4.own)
          have HLN : Hid (ms.length ≤ 1000000) := by show _ ≤ _; have := HO.out.2.2; omega
          have HNX : Hid (∀ W, Tc w W p B x (w.heap.size + 1) (.int .i64 c) (.int .i64 st) (.int .i64 k) (.int .i64 l) (.string n) (.slice ap ms.length cp) ms xs (K + 6 + 2 * j + 1) → Calls Tryd.prog 42 #[.pointer (some ⟨p, 0, none⟩), .int .i64 100] W fun e w' => ∃ r : Nat, e = .returned (.int .i64 r) ∧ r < 100 ∧ Tc w w' p B x (w.heap.size + 1) (.int .i64 c) (.int .i64 st) (.int .i64 k) (.int .i64 l) (.string n) (.slice ap ms.length cp) ms xs (K + 6 + 2 * j + 2) ∧ ∀ g o, W.heap[g]? = some o → g ≠ p → w'.heap[g]? = some o) := fun W hW => by
            refine (next_any 100 p B (K + 6 + 2 * j + 1) xs W hW.rd hB (by omega) hxl (by decide) (by decide)).mono ?_
            rintro e w' ⟨r, rfl, hr, s, g⟩
            exact ⟨r, rfl, hr, hW.grown g s, fun q o ho hq => blk_kept ho g hq⟩
          have HSH : Hid (∀ W g K', Tc w W p B x (w.heap.size + 1) (.int .i64 c) (.int .i64 st) (.int .i64 k) (.int .i64 l) (.string n) (.slice ap ms.length cp) ms xs K' → W.heap[g]? = some (.cells #[.int .u8 (j : Int)] 5 (0, 0)) → Calls Tryd.prog 43 #[.slice (some ⟨g, 0, none⟩) 1 1] W fun e w' => ∃ s : ByteArray, e = .returned (.string s) ∧ s.size = 32 ∧ Tc w w' p B x (w.heap.size + 1) (.int .i64 c) (.int .i64 st) (.int .i64 k) (.int .i64 l) (.string n) (.slice ap ms.length cp) ms xs K') := fun W g K' hW hg => by
            refine (hash1_any (j : Int) W ⟨by omega, by omega⟩ g hg).mono ?_
            rintro e w' ⟨s, rfl, hs, b⟩
            exact ⟨s, rfl, hs, hW.below b⟩
          have q6 := T4.c6
          have q6d := Tc.c6 T4.drew
          have q6a := fun o => Tc.c6 (T4.alloc o)
          have q6e := fun o => Tc.c6 (T4.alloc o).drew
          have hp4 : p < w4.heap.size := T4.rd.lt
          have hw8 : IntKind.u8.wrap (j : Int) = (j : Int) := by rw [IntKind.wrap_u8]; omega
          have hjr : (0 : Int) ≤ (j : Int) := by omega
          have HJ : Hid (∀ _ : Unit, j < 4) := fun _ => hlt
          clear hp hK hxl l2 hlt hj HQ
          go_upto_region 8 with fail
          go_region_law
            (first
              | (go_simp; go_at_call 42; (with_reducible refine (HNX.out _ (by first | assumption | exact Tc.drew (by assumption) | exact Tc.alloc (by assumption) _ | exact Tc.drew (Tc.alloc (by assumption) _) | exact Tc.alloc (Tc.drew (by assumption)) _)).mono ?_); rintro e wn ⟨r, rfl, hr, tn, gn⟩; have qn := tn.c6; have qa := fun o => Tc.c6 (tn.alloc o); have qd := Tc.c6 tn.drew; try go_simp)
              | (go_simp; go_at_call 43; (with_reducible refine (HSH.out _ _ _ (by first | assumption | exact Tc.drew (by assumption) | exact Tc.alloc (by assumption) _ | exact Tc.drew (Tc.alloc (by assumption) _) | exact Tc.alloc (Tc.drew (by assumption)) _) (by first | exact heap_alloc_new _ _ | exact gn _ _ (heap_alloc_new _ _) (by omega))).mono ?_); rintro e wh ⟨hs, rfl, hsz, th⟩; have qh := th.c6; have qha := fun o => Tc.c6 (th.alloc o); have qhd := Tc.c6 th.drew; try go_simp)
              | (refine step_tc (by rfl) _ _ 35 (by rfl) Tryd.underlying35 hi0 hz0 hz1 hz2 _ w p B x _ _ _ _ _ _ _ ms xs _ ⟨(j : Int), (r : Int), hs.extract 0 8⟩ (by rfl) _ (by rfl) (by first | exact heap_alloc_new _ _ | exact (heap_alloc_new _ _ : (World.alloc _ _).drew.heap[_]? = _)) (by first | assumption | exact Tc.drew (by assumption) | exact Tc.alloc (by assumption) _ | exact Tc.drew (Tc.alloc (by assumption) _) | exact Tc.alloc (Tc.drew (by assumption)) _) HLN.out ?_; intro v5 w5 t5; obtain ⟨a5, cap5, rfl⟩ := RowG.slice (OwnR.row t5.own); obtain ⟨s5, f5⟩ := t5.c6; try go_simp))
          all_goals
            rw [show (ms ++ [(⟨(j : Int), (r : Int), hs.extract 0 8⟩ : Rd)]).length = ms.length + 1 by simp] at t5
            have T5 : Hid (Tc w (w5.setCell ⟨x, 6, none⟩ (.slice a5 (ms.length + 1) cap5)) p B x (w.heap.size + 1) (.int .i64 c) (.int .i64 st) (.int .i64 k) (.int .i64 l) (.string n) (.slice a5 (ms.length + 1) cap5) (ms ++ [⟨(j : Int), (r : Int), hs.extract 0 8⟩]) xs (K + 6 + 2 * j + 2)) := t5.set
            have H8 : Hid ((hs.extract 0 8).size = 8) := by show _ = _; rw [ByteArray.size_extract, hsz]; rfl
            clear t5 T4 q6 q6d q6a q6e tn gn th qn qa qd qh qha qhd s5 f5
            generalize w5.setCell ⟨x, 6, none⟩ (.slice a5 (ms.length + 1) cap5) = w6 at T5 ⊢
            go_wp2_with fail
            refine ⟨⟨j + 1, _, _, by have := HJ.out (); omega, by go_num, T5, ?_⟩, by have := HJ.out (); simp [intOf]; omega⟩
            refine ⟨rOK_snoc _ ⟨by have := HJ.out (); dsimp only; omega, by dsimp only; omega, by dsimp only; omega, H8.out⟩ ms 0 HO.out.1 HO.out.2.1 (by dsimp only; omega), ?_, by rw [List.length_append]; have := HO.out.2.2; simp; omega⟩
            intro m hm
            rcases List.mem_append.1 hm with hm | hm
            · have := HO.out.2.1 m hm; omega
            · simp at hm; subst hm; dsimp only; omega
      · obtain rfl : j = 4 := by omega
        obtain ⟨T4⟩ : Nonempty (Hid (Tc w wr p B x (w.heap.size + 1) (.int .i64 c) (.int .i64 st) (.int .i64 k) (.int .i64 l) (.string n) v ms xs (K + 14))) := ⟨HT⟩
        obtain ⟨ap, cp, rfl⟩ := RowG.slice (OwnR.row T4.out.own)
        have AZ : Hid (wr.heap[w.heap.size]? = some (.cells #[.bool false, .int .i64 0, .int .i64 0, .int .i64 0, .int .i64 0, .string ⟨#[]⟩, .slice none 0 0] 73 (0, 0))) := T4.out.ha
        have BZ : Hid (wr.heap[x]? = some (.cells #[.bool false, .int .i64 c, .int .i64 st, .int .i64 k, .int .i64 l, .string n, .slice ap ms.length cp] 73 (0, 0))) := T4.out.hx
        have SZ : Hid (Src B wr p xs (K + 14)) := T4.out.rd
        have GZ : Hid (w.grownBy wr (some p)) := T4.out.gr
        have OZ : Hid (OwnR wr (w.heap.size + 1) (.slice ap ms.length cp) ms) := T4.out.own
        have HBO : Hid (bOK false c st k l n ms = true) := by
          show (reqB c st k l n && rOK 0 ms) = true
          rw [HQ.out, HO.out.1]; rfl
        clear HT T4
        go_upto_region 9 with fail
        obtain ⟨ca0, fa0⟩ := blk_cell AZ.out 0 (x := .bool false) rfl
        have cb0 := (blk_cell BZ.out 0 (x := .bool false) rfl).1
        obtain ⟨ca1, fa1⟩ := blk_cell AZ.out 1 (x := .int .i64 0) rfl
        have cb1 := (blk_cell BZ.out 1 (x := .int .i64 c) rfl).1
        obtain ⟨ca2, fa2⟩ := blk_cell AZ.out 2 (x := .int .i64 0) rfl
        have cb2 := (blk_cell BZ.out 2 (x := .int .i64 st) rfl).1
        obtain ⟨ca3, fa3⟩ := blk_cell AZ.out 3 (x := .int .i64 0) rfl
        have cb3 := (blk_cell BZ.out 3 (x := .int .i64 k) rfl).1
        obtain ⟨ca4, fa4⟩ := blk_cell AZ.out 4 (x := .int .i64 0) rfl
        have cb4 := (blk_cell BZ.out 4 (x := .int .i64 l) rfl).1
        obtain ⟨ca5, fa5⟩ := blk_cell AZ.out 5 (x := .string ⟨#[]⟩) rfl
        have cb5 := (blk_cell BZ.out 5 (x := .string n) rfl).1
        obtain ⟨ca6, fa6⟩ := blk_cell AZ.out 6 (x := .slice none 0 0) rfl
        have cb6 := (blk_cell BZ.out 6 (x := .slice ap ms.length cp) rfl).1
        have AF : ((((((((wr.setCell ⟨w.heap.size, 0, none⟩ (.bool false)).setCell ⟨w.heap.size, 1, none⟩ (.int .i64 c)).setCell ⟨w.heap.size, 2, none⟩ (.int .i64 st)).setCell ⟨w.heap.size, 3, none⟩ (.int .i64 k)).setCell ⟨w.heap.size, 4, none⟩ (.int .i64 l)).setCell ⟨w.heap.size, 5, none⟩ (.string n)).setCell ⟨w.heap.size, 6, none⟩ (.slice ap ms.length cp))).heap[w.heap.size]? = some (.cells #[.bool false, .int .i64 c, .int .i64 st, .int .i64 k, .int .i64 l, .string n, .slice ap ms.length cp] 73 (0, 0)) := (blk_set (blk_set (blk_set (blk_set (blk_set (blk_set (blk_set AZ.out 0 (.bool false)) 1 (.int .i64 c)) 2 (.int .i64 st)) 3 (.int .i64 k)) 4 (.int .i64 l)) 5 (.string n)) 6 (.slice ap ms.length cp))
        have GF : Hid (w.grownBy (((((((wr.setCell ⟨w.heap.size, 0, none⟩ (.bool false)).setCell ⟨w.heap.size, 1, none⟩ (.int .i64 c)).setCell ⟨w.heap.size, 2, none⟩ (.int .i64 st)).setCell ⟨w.heap.size, 3, none⟩ (.int .i64 k)).setCell ⟨w.heap.size, 4, none⟩ (.int .i64 l)).setCell ⟨w.heap.size, 5, none⟩ (.string n)).setCell ⟨w.heap.size, 6, none⟩ (.slice ap ms.length cp)) (some p)) := (grown_new (grown_new (grown_new (grown_new (grown_new (grown_new (grown_new GZ.out (Nat.le_refl _) 0 (.bool false)) (Nat.le_refl _) 1 (.int .i64 c)) (Nat.le_refl _) 2 (.int .i64 st)) (Nat.le_refl _) 3 (.int .i64 k)) (Nat.le_refl _) 4 (.int .i64 l)) (Nat.le_refl _) 5 (.string n)) (Nat.le_refl _) 6 (.slice ap ms.length cp))
        have SF : Hid (Src B (((((((wr.setCell ⟨w.heap.size, 0, none⟩ (.bool false)).setCell ⟨w.heap.size, 1, none⟩ (.int .i64 c)).setCell ⟨w.heap.size, 2, none⟩ (.int .i64 st)).setCell ⟨w.heap.size, 3, none⟩ (.int .i64 k)).setCell ⟨w.heap.size, 4, none⟩ (.int .i64 l)).setCell ⟨w.heap.size, 5, none⟩ (.string n)).setCell ⟨w.heap.size, 6, none⟩ (.slice ap ms.length cp)) p xs (K + 14)) := (Src.set (Src.set (Src.set (Src.set (Src.set (Src.set (Src.set SZ.out (by omega) (by omega) 0 (.bool false)) (by omega) (by omega) 1 (.int .i64 c)) (by omega) (by omega) 2 (.int .i64 st)) (by omega) (by omega) 3 (.int .i64 k)) (by omega) (by omega) 4 (.int .i64 l)) (by omega) (by omega) 5 (.string n)) (by omega) (by omega) 6 (.slice ap ms.length cp))
        have OF : Hid (OwnR (((((((wr.setCell ⟨w.heap.size, 0, none⟩ (.bool false)).setCell ⟨w.heap.size, 1, none⟩ (.int .i64 c)).setCell ⟨w.heap.size, 2, none⟩ (.int .i64 st)).setCell ⟨w.heap.size, 3, none⟩ (.int .i64 k)).setCell ⟨w.heap.size, 4, none⟩ (.int .i64 l)).setCell ⟨w.heap.size, 5, none⟩ (.string n)).setCell ⟨w.heap.size, 6, none⟩ (.slice ap ms.length cp)) (w.heap.size + 1) (.slice ap ms.length cp) ms) := (own_set (own_set (own_set (own_set (own_set (own_set (own_set OZ.out (by omega) 0 (.bool false)) (by omega) 1 (.int .i64 c)) (by omega) 2 (.int .i64 st)) (by omega) 3 (.int .i64 k)) (by omega) 4 (.int .i64 l)) (by omega) 5 (.string n)) (by omega) 6 (.slice ap ms.length cp))
        go_wp2_with fail
        generalize (((((((wr.setCell ⟨w.heap.size, 0, none⟩ (.bool false)).setCell ⟨w.heap.size, 1, none⟩ (.int .i64 c)).setCell ⟨w.heap.size, 2, none⟩ (.int .i64 st)).setCell ⟨w.heap.size, 3, none⟩ (.int .i64 k)).setCell ⟨w.heap.size, 4, none⟩ (.int .i64 l)).setCell ⟨w.heap.size, 5, none⟩ (.string n)).setCell ⟨w.heap.size, 6, none⟩ (.slice ap ms.length cp)) = wf at AF GF SF OF ⊢
        have d0 := (blk_cell AF 0 (x := .bool false) rfl).1
        have d1 := (blk_cell AF 1 (x := .int .i64 c) rfl).1
        have d2 := (blk_cell AF 2 (x := .int .i64 st) rfl).1
        have d3 := (blk_cell AF 3 (x := .int .i64 k) rfl).1
        have d4 := (blk_cell AF 4 (x := .int .i64 l) rfl).1
        have d5 := (blk_cell AF 5 (x := .string n) rfl).1
        have d6 := (blk_cell AF 6 (x := .slice ap ms.length cp) rfl).1
        exact bodyPost_ret (v := batV false c st k l n (.slice ap ms.length cp)) (by simp [batV, results, Tryd.results45, go_sem, d0, d1, d2, d3, d4, d5, d6]) rfl ⟨false, c, st, k, l, n, _, ms, rfl, HBO.out, fun h => (by cases h), OwnR.mono OF.out (by omega), SF.out, GF.out⟩

end Go.Proofs.YtdeologdmdimoaaDoor.Gn
