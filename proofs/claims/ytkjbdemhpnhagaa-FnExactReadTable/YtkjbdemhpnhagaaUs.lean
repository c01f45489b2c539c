/- A lock is taken off the wire (impl.takeLock). -/
import Derived.Test.YtkjbdemhpnhagaaUr
namespace Go.Proofs.Ytkjbdemhpnhagaa.Ur
open Go.RowKit Go.Proofs.Ytkjbdemhpnhagaa.Sl Go.Proofs.Ytkjbdemhpnhagaa.By Go.Proofs.Ytkjbdemhpnhagaa.Ap Go.Proofs.Ytkjbdemhpnhagaa.Rr Go.Proofs.Ytkjbdemhpnhagaa.Tb Go.Proofs.Ytkjbdemhpnhagaa.Tw
open Go.Proofs.Ytkjbdemhpnhagaa.Wa (OwnW appW infoW)

/-- While those that wait are read: their row, and the block of the one that is read. -/
structure Lw (w wr W : World) (p B : Nat) (z cs : Array Value) (u : Value) (ws : List Wt) (xc : Array Value) (xs : List Int) (sh : Bool) : Prop where
  lc : Lc w W p B 37 z cs xs sh
  ow : OwnW W (w.heap.size + 2) u ws
  og : ∀ g, u.ownBlock = some g → g < wr.heap.size
  xb : W.heap[wr.heap.size]? = some (.cells xc 61 (0, 0))
  sz : w.heap.size + 2 ≤ wr.heap.size
theorem Lw.start {w wr : World} {p B : Nat} {z cs : Array Value} {u : Value} {ws : List Wt} {xs : List Int} {sh : Bool} (h : Lc w wr p B 37 z cs xs sh) (o : OwnW wr (w.heap.size + 2) u ws) (xc : Array Value) : Lw w wr (wr.alloc (.cells xc 61)) p B z cs u ws xc xs sh :=
  ⟨h.alloc _, o.alloc _, fun g hg => (o.lt g hg).2, heap_alloc_new _ _, h.size⟩
theorem Lw.num {w wr W W' : World} {p B : Nat} {z cs : Array Value} {u : Value} {ws : List Wt} {xc : Array Value} {xs ys : List Int} {sh sb : Bool} (h : Lw w wr W p B z cs u ws xc xs sh) (r : Rdr B W' p ys sb) (g : W.grownBy W' (some p)) : Lw w wr W' p B z cs u ws xc ys sb :=
  ⟨h.lc.num r g, h.ow.kept fun q hq => g.block q (h.ow.lt q hq).2 (by have := h.lc.pl; have := (h.ow.lt q hq).1; simp; omega), h.og, blk_kept h.xb g (by have := h.lc.pl; have := h.sz; omega), h.sz⟩
theorem Lw.setx {w wr W : World} {p B : Nat} {z cs : Array Value} {u : Value} {ws : List Wt} {xc : Array Value} {xs : List Int} {sh : Bool} (h : Lw w wr W p B z cs u ws xc xs sh) (i : Nat) (v : Value) : Lw w wr (W.setCell ⟨wr.heap.size, i, none⟩ v) p B z cs u ws (xc.setIfInBounds i v) xs sh :=
  ⟨h.lc.far _ h.sz i v, h.ow.kept fun q hq => blk_far (by have := h.og q hq; omega) i v, h.og, blk_set h.xb i v, h.sz⟩
/-- One more joined. -/
theorem Lc.kept {w W W' : World} {p B : Nat} {t : TypeId} {z cs : Array Value} {xs : List Int} {sh : Bool} {v : Value} (h : Lc w W p B t z cs xs sh) (hs : W.heap.size ≤ W'.heap.size) (hv : ∀ g, v.ownBlock = some g → w.heap.size + 2 ≤ g) (hb : Below (w.heap.size + 2) W W') (hk : ∀ k, k < W.heap.size → some k ≠ v.ownBlock → W'.heap[k]? = W.heap[k]?) : Lc w W' p B t z cs xs sh := by
  have hlt := h.size
  have far : ∀ k, k < w.heap.size + 2 → W'.heap[k]? = W.heap[k]? := fun k hk' => hk k (by omega) fun e => by have := hv k e.symm; omega
  refine ⟨(far _ (by omega)).trans h.a, (far _ (by omega)).trans h.b, h.rd.kept (far p (by have := h.pl; omega)) (fun k hk' => far k (by have := h.pl; omega)), ?_, h.pl⟩
  exact ⟨hb.os.trans h.gr.os, hb.tape.trans h.gr.tape, hb.output.trans h.gr.output, Nat.le_trans h.gr.size hs, fun k hk' hn => (far k (by omega)).trans (h.gr.block k hk' hn)⟩
theorem row_one (W : World) (x : Wt) : RowW (W.alloc (.cells #[.int .i64 x.c, .int .i64 x.l] 61)) (.slice (some ⟨W.heap.size, 0, none⟩) 1 1) [x] := by
  refine ⟨_, _, rfl, .inr ⟨W.heap.size, 0, rfl, Nat.le_refl _, by simp, fun i y hi => ?_⟩⟩
  have h0 : i = 0 := by have := (List.getElem?_eq_some_iff.1 hi).1; simp at this; exact this
  subst h0
  simp at hi
  subst hi
  exact ⟨(Joins.cell_of_block (heap_alloc_new W _) _).trans rfl, (Joins.cell_of_block (heap_alloc_new W _) _).trans rfl⟩
set_option maxRecDepth 100000 in
set_option maxHeartbeats 6400000 in
theorem takeLock_any (p B : Nat) (xs : List Int) (sh : Bool) (w : World) (h : Rdr B w p xs sh) (hB : B ≤ p) (hx : xs.length ≤ 70000) (hr : ∀ x ∈ xs, 0 ≤ x ∧ x ≤ 255) :
    Calls Try.prog 77 #[.pointer (some ⟨p, 0, none⟩)] w fun e w' => ∃ u, e = .returned (lkV (lkO xs) u) ∧ OwnW w' w.heap.size u (lkO xs).ws ∧ Rdr B w' p (lkR xs) (lkS xs sh) ∧ w.grownBy w' (some p) := by
  obtain ⟨i0, hi0, hz0, hz1, hz2⟩ := info_parts infoW
  have L0 : Hid (Lc w ((w.alloc (.cells #[.string ⟨#[]⟩, .int .i64 0, .int .i64 0, .int .i64 0, .slice none 0 0] 37)).alloc (.cells #[.string ⟨#[]⟩, .int .i64 0, .int .i64 0, .int .i64 0, .slice none 0 0] 37)) p B 37 #[.string ⟨#[]⟩, .int .i64 0, .int .i64 0, .int .i64 0, .slice none 0 0] #[.string ⟨#[]⟩, .int .i64 0, .int .i64 0, .int .i64 0, .slice none 0 0] xs sh) := Lc.start h hB _ _
  have HR0 : Hid (∀ x ∈ xs, 0 ≤ x ∧ x ≤ 255) := hr
  have HX0 : Hid (xs.length ≤ 70000) := hx
  clear h hr hx
  go_enter Try.func77, Try.ntmps77
  go_wp2_with fail
  generalize (w.alloc (.cells #[.string ⟨#[]⟩, .int .i64 0, .int .i64 0, .int .i64 0, .slice none 0 0] 37)).alloc (.cells #[.string ⟨#[]⟩, .int .i64 0, .int .i64 0, .int .i64 0, .slice none 0 0] 37) = w0 at L0 ⊢
  have N0 := text_any 1 p B xs sh _ L0.out.rd hB (by decide) HX0.out HR0.out
  have HR1 : Hid (∀ x ∈ (txtR 1 xs), 0 ≤ x ∧ x ≤ 255) := txtR_range HR0.out
  have HX1 : Hid ((txtR 1 xs).length ≤ 70000) := Nat.le_trans (txtR_len _ _) HX0.out
  obtain ⟨z0, HZ0⟩ : ∃ z, Hid (txtB 1 xs = z) := ⟨_, rfl⟩
  rw [HZ0.out] at N0
  refine N0.mono ?_
  rintro e w1 ⟨rfl, r, g⟩
  have l := L0.out.num r g
  obtain ⟨c, f⟩ := blk_cell l.b 0 (x := .string ⟨#[]⟩) rfl
  have L1 : Hid (Lc w (w1.setCell ⟨w.heap.size + 1, 0, none⟩ (.string z0)) p B 37 #[.string ⟨#[]⟩, .int .i64 0, .int .i64 0, .int .i64 0, .slice none 0 0] #[.string z0, .int .i64 0, .int .i64 0, .int .i64 0, .slice none 0 0] (txtR 1 xs) (txtS 1 xs sh)) := l.set 0 _
  clear l r g L0 N0 HR0 HX0
  go_wp2_with fail
  clear c f
  generalize w1.setCell ⟨w.heap.size + 1, 0, none⟩ (.string z0) = w1' at L1 ⊢
  have N1 := number_any 3 p B (txtR 1 xs) (txtS 1 xs sh) _ L1.out.rd hB (by decide) HX1.out HR1.out
  have nb1 := nv_range (n := 3) HR1.out
  have HR2 : Hid (∀ x ∈ (tkR 3 (txtR 1 xs)), 0 ≤ x ∧ x ≤ 255) := tkR_range HR1.out
  have HX2 : Hid (((tkR 3 (txtR 1 xs))).length ≤ 70000) := Nat.le_trans (tkR_len _ _) HX1.out
  unfold nv at nb1
  obtain ⟨z1, HZ1⟩ : ∃ z, Hid (beN (tkB 3 (txtR 1 xs)) = z) := ⟨_, rfl⟩
  rw [HZ1.out] at N1 nb1
  simp only [show ((256 : Int) ^ 3) = 16777216 from rfl] at nb1
  refine N1.mono ?_
  rintro e w2 ⟨rfl, r, g⟩
  have l := L1.out.num r g
  obtain ⟨c, f⟩ := blk_cell l.b 1 (x := .int .i64 0) rfl
  have L2 : Hid (Lc w (w2.setCell ⟨w.heap.size + 1, 1, none⟩ (.int .i64 z1)) p B 37 #[.string ⟨#[]⟩, .int .i64 0, .int .i64 0, .int .i64 0, .slice none 0 0] #[.string z0, .int .i64 z1, .int .i64 0, .int .i64 0, .slice none 0 0] (tkR 3 (txtR 1 xs)) (tkS 3 (txtR 1 xs) (txtS 1 xs sh))) := l.set 1 _
  clear l r g L1 N1 HR1 HX1
  go_wp2_with fail
  clear c f nb1
  generalize w2.setCell ⟨w.heap.size + 1, 1, none⟩ (.int .i64 z1) = w2' at L2 ⊢
  have N2 := number_any 2 p B (tkR 3 (txtR 1 xs)) (tkS 3 (txtR 1 xs) (txtS 1 xs sh)) _ L2.out.rd hB (by decide) HX2.out HR2.out
  have nb2 := nv_range (n := 2) HR2.out
  have HR3 : Hid (∀ x ∈ (tkR 2 (tkR 3 (txtR 1 xs))), 0 ≤ x ∧ x ≤ 255) := tkR_range HR2.out
  have HX3 : Hid (((tkR 2 (tkR 3 (txtR 1 xs)))).length ≤ 70000) := Nat.le_trans (tkR_len _ _) HX2.out
  unfold nv at nb2
  obtain ⟨z2, HZ2⟩ : ∃ z, Hid (beN (tkB 2 (tkR 3 (txtR 1 xs))) = z) := ⟨_, rfl⟩
  rw [HZ2.out] at N2 nb2
  simp only [show ((256 : Int) ^ 2) = 65536 from rfl] at nb2
  refine N2.mono ?_
  rintro e w3 ⟨rfl, r, g⟩
  have l := L2.out.num r g
  obtain ⟨c, f⟩ := blk_cell l.b 2 (x := .int .i64 0) rfl
  have L3 : Hid (Lc w (w3.setCell ⟨w.heap.size + 1, 2, none⟩ (.int .i64 (z2 - 1))) p B 37 #[.string ⟨#[]⟩, .int .i64 0, .int .i64 0, .int .i64 0, .slice none 0 0] #[.string z0, .int .i64 z1, .int .i64 (z2 - 1), .int .i64 0, .slice none 0 0] (tkR 2 (tkR 3 (txtR 1 xs))) (tkS 2 (tkR 3 (txtR 1 xs)) (tkS 3 (txtR 1 xs) (txtS 1 xs sh)))) := l.set 2 _
  clear l r g L2 N2 HR2 HX2
  go_wp2_with fail
  clear c f nb2
  generalize w3.setCell ⟨w.heap.size + 1, 2, none⟩ (.int .i64 (z2 - 1)) = w3' at L3 ⊢
  have N3 := number_any 4 p B (tkR 2 (tkR 3 (txtR 1 xs))) (tkS 2 (tkR 3 (txtR 1 xs)) (tkS 3 (txtR 1 xs) (txtS 1 xs sh))) _ L3.out.rd hB (by decide) HX3.out HR3.out
  have nb3 := nv_range (n := 4) HR3.out
  have HR4 : Hid (∀ x ∈ (tkR 4 (tkR 2 (tkR 3 (txtR 1 xs)))), 0 ≤ x ∧ x ≤ 255) := tkR_range HR3.out
  have HX4 : Hid (((tkR 4 (tkR 2 (tkR 3 (txtR 1 xs))))).length ≤ 70000) := Nat.le_trans (tkR_len _ _) HX3.out
  unfold nv at nb3
  obtain ⟨z3, HZ3⟩ : ∃ z, Hid (beN (tkB 4 (tkR 2 (tkR 3 (txtR 1 xs)))) = z) := ⟨_, rfl⟩
  rw [HZ3.out] at N3 nb3
  simp only [show ((256 : Int) ^ 4) = 4294967296 from rfl] at nb3
  refine N3.mono ?_
  rintro e w4 ⟨rfl, r, g⟩
  have l := L3.out.num r g
  obtain ⟨c, f⟩ := blk_cell l.b 3 (x := .int .i64 0) rfl
  have L4 : Hid (Lc w (w4.setCell ⟨w.heap.size + 1, 3, none⟩ (.int .i64 z3)) p B 37 #[.string ⟨#[]⟩, .int .i64 0, .int .i64 0, .int .i64 0, .slice none 0 0] #[.string z0, .int .i64 z1, .int .i64 (z2 - 1), .int .i64 z3, .slice none 0 0] (tkR 4 (tkR 2 (tkR 3 (txtR 1 xs)))) (tkS 4 (tkR 2 (tkR 3 (txtR 1 xs))) (tkS 2 (tkR 3 (txtR 1 xs)) (tkS 3 (txtR 1 xs) (txtS 1 xs sh))))) := l.set 3 _
  clear l r g L3 N3 HR3 HX3
  go_wp2_with fail
  clear c f nb3
  generalize w4.setCell ⟨w.heap.size + 1, 3, none⟩ (.int .i64 z3) = w4' at L4 ⊢
  have HE4 : Hid (lk3 xs = (tkR 4 (tkR 2 (tkR 3 (txtR 1 xs)))) ∧ lkS3 xs sh = (tkS 4 (tkR 2 (tkR 3 (txtR 1 xs))) (tkS 2 (tkR 3 (txtR 1 xs)) (tkS 3 (txtR 1 xs) (txtS 1 xs sh))))) := ⟨rfl, rfl⟩
  rw [← HE4.out.1] at L4 HR4 HX4
  rw [← HE4.out.2] at L4
  have HEO : Hid (lkO xs = ⟨z0, z1, z2 - 1, z3, itL wtR wtO (cnt (lk3 xs)) (tkR 1 (lk3 xs))⟩) := by
    show _ = _
    unfold lkO nv
    rw [HZ0.out, HZ1.out, HZ2.out, HZ3.out]
  have HER : Hid (lkR xs = itR wtR (cnt (lk3 xs)) (tkR 1 (lk3 xs)) ∧ lkS xs sh = itS wtR wtS (cnt (lk3 xs)) (tkR 1 (lk3 xs)) (tkS 1 (lk3 xs) (lkS3 xs sh))) := ⟨rfl, rfl⟩
  have N4 := number_any 1 p B (lk3 xs) (lkS3 xs sh) _ L4.out.rd hB (by decide) HX4.out HR4.out
  have nb4 := nv_range (n := 1) HR4.out
  have hcn : beN (tkB 1 (lk3 xs)) = (cnt (lk3 xs) : Int) := by unfold cnt nv; unfold nv at nb4; omega
  have hc2 : cnt (lk3 xs) ≤ 255 := by
    simp only [show ((256 : Int) ^ 1) = 256 from rfl] at nb4
    unfold cnt; omega
  have HR5 : Hid (∀ x ∈ tkR 1 (lk3 xs), 0 ≤ x ∧ x ≤ 255) := tkR_range HR4.out
  have HX5 : Hid ((tkR 1 (lk3 xs)).length ≤ 70000) := Nat.le_trans (tkR_len _ _) HX4.out
  rw [hcn] at N4
  obtain ⟨n, HNN⟩ : ∃ n, Hid (cnt (lk3 xs) = n) := ⟨_, rfl⟩
  rw [HNN.out] at N4 hc2 HEO HER
  obtain ⟨ys, HYS⟩ : ∃ ys, Hid (tkR 1 (lk3 xs) = ys) := ⟨_, rfl⟩
  obtain ⟨s0, HS0⟩ : ∃ s0, Hid (tkS 1 (lk3 xs) (lkS3 xs sh) = s0) := ⟨_, rfl⟩
  rw [HYS.out] at N4 HEO HER HR5 HX5
  rw [HS0.out] at N4 HER
  clear nb4 hcn
  refine N4.mono ?_
  rintro e w5 ⟨rfl, r, g⟩
  have L5 : Hid (Lc w w5 p B 37 #[.string ⟨#[]⟩, .int .i64 0, .int .i64 0, .int .i64 0, .slice none 0 0] #[.string z0, .int .i64 z1, .int .i64 (z2 - 1), .int .i64 z3, .slice none 0 0] ys s0) := L4.out.num r g
  have HRY : Hid (∀ k, ∀ x ∈ itR wtR k ys, 0 ≤ x ∧ x ≤ 255) := fun k => (less_it less_wt k ys).2 HR5.out
  have HXY : Hid (∀ k, (itR wtR k ys).length ≤ 70000) := fun k => Nat.le_trans (less_it less_wt k ys).1 HX5.out
  clear r g L4 N4 HR4 HX4 HR5 HX5 HE4 HYS HS0
  go_wp2_with fail
  go_loopw [20] (fun i wr => ∃ (k : Nat) (a : Option Addr) (c : Nat), k ≤ n ∧ i = .int .i64 (k : Int) ∧ Hid (Lc w wr p B 37 #[.string ⟨#[]⟩, .int .i64 0, .int .i64 0, .int .i64 0, .slice none 0 0] #[.string z0, .int .i64 z1, .int .i64 (z2 - 1), .int .i64 z3, .slice a k c] (itR wtR k ys) (itS wtR wtS k ys s0) ∧ OwnW wr (w.heap.size + 2) (.slice a k c) (itL wtR wtO k ys))) (fun i _ => n - (intOf i).toNat)
  case atStart => exact ⟨0, none, 0, by omega, rfl, L5.out, OwnW.nil _ _⟩
  case round =>
    clear L5
    obtain ⟨k, a, c, hk, rfl, HT⟩ := hrel
    by_cases hlt : k < n
    · have HLN : Hid ((itL wtR wtO k ys).length + 1 ≤ 1000000) := by show _ ≤ _; rw [itL_len]; omega
      have HES : Hid (itL wtR wtO (k + 1) ys = itL wtR wtO k ys ++ [wtO (itR wtR k ys)] ∧ itR wtR (k + 1) ys = tkR 2 (tkR 1 (itR wtR k ys)) ∧ itS wtR wtS (k + 1) ys s0 = tkS 2 (tkR 1 (itR wtR k ys)) (tkS 1 (itR wtR k ys) (itS wtR wtS k ys s0))) := ⟨rfl, rfl, rfl⟩
      have HLK : Hid ((itL wtR wtO (k + 1) ys).length = k + 1) := itL_len _ _ _ _
      have HRA : Hid (∀ x ∈ itR wtR k ys, 0 ≤ x ∧ x ≤ 255) := HRY.out k
      have HXA : Hid ((itR wtR k ys).length ≤ 70000) := HXY.out k
      obtain ⟨qs, HAS⟩ : ∃ qs, Hid (itR wtR k ys = qs) := ⟨_, rfl⟩
      obtain ⟨sa, HSA⟩ : ∃ sa, Hid (itS wtR wtS k ys s0 = sa) := ⟨_, rfl⟩
      obtain ⟨ms, HMS⟩ : ∃ ms, Hid (itL wtR wtO k ys = ms) := ⟨_, rfl⟩
      rw [HAS.out, HSA.out, HMS.out] at HT
      rw [HAS.out] at HRA HXA
      rw [HAS.out, HSA.out, HMS.out] at HES
      rw [HMS.out] at HLN
      have K0 : Hid (Lw w wr (wr.alloc (.cells #[.int .i64 0, .int .i64 0] 61)) p B #[.string ⟨#[]⟩, .int .i64 0, .int .i64 0, .int .i64 0, .slice none 0 0] #[.string z0, .int .i64 z1, .int .i64 (z2 - 1), .int .i64 z3, .slice a k c] (.slice a k c) ms #[.int .i64 0, .int .i64 0] qs sa) := Lw.start HT.out.1 HT.out.2 _
      clear HT
      go_wp2_with fail
      generalize wr.alloc (.cells #[.int .i64 0, .int .i64 0] 61) = q0 at K0 ⊢
      have M0 := number_any 1 p B qs sa _ K0.out.lc.rd hB (by decide) HXA.out HRA.out
      have HRB : Hid (∀ x ∈ tkR 1 qs, 0 ≤ x ∧ x ≤ 255) := tkR_range HRA.out
      have HXB : Hid ((tkR 1 qs).length ≤ 70000) := Nat.le_trans (tkR_len _ _) HXA.out
      obtain ⟨y0, HY0⟩ : ∃ z, Hid (beN (tkB 1 qs) = z) := ⟨_, rfl⟩
      rw [HY0.out] at M0
      refine M0.mono ?_
      rintro e q1 ⟨rfl, r, g⟩
      have l := K0.out.num r g
      obtain ⟨c0, f0⟩ := blk_cell l.xb 0 (x := .int .i64 0) rfl
      have K1 : Hid (Lw w wr (q1.setCell ⟨wr.heap.size, 0, none⟩ (.int .i64 y0)) p B #[.string ⟨#[]⟩, .int .i64 0, .int .i64 0, .int .i64 0, .slice none 0 0] #[.string z0, .int .i64 z1, .int .i64 (z2 - 1), .int .i64 z3, .slice a k c] (.slice a k c) ms #[.int .i64 y0, .int .i64 0] (tkR 1 qs) (tkS 1 qs sa)) := l.setx 0 _
      clear l r g K0 M0 HRA HXA
      go_wp2_with fail
      clear c0 f0
      generalize q1.setCell ⟨wr.heap.size, 0, none⟩ (.int .i64 y0) = q1' at K1 ⊢
      have M1 := number_any 2 p B (tkR 1 qs) (tkS 1 qs sa) _ K1.out.lc.rd hB (by decide) HXB.out HRB.out
      obtain ⟨y1, HY1⟩ : ∃ z, Hid (beN (tkB 2 (tkR 1 qs)) = z) := ⟨_, rfl⟩
      rw [HY1.out] at M1
      refine M1.mono ?_
      rintro e q2 ⟨rfl, r, g⟩
      have l := K1.out.num r g
      obtain ⟨c0, f0⟩ := blk_cell l.xb 1 (x := .int .i64 0) rfl
      have K2 : Hid (Lw w wr (q2.setCell ⟨wr.heap.size, 1, none⟩ (.int .i64 y1)) p B #[.string ⟨#[]⟩, .int .i64 0, .int .i64 0, .int .i64 0, .slice none 0 0] #[.string z0, .int .i64 z1, .int .i64 (z2 - 1), .int .i64 z3, .slice a k c] (.slice a k c) ms #[.int .i64 y0, .int .i64 y1] (tkR 2 (tkR 1 qs)) (tkS 2 (tkR 1 qs) (tkS 1 qs sa))) := l.setx 1 _
      have HWT : Hid (wtO qs = ⟨y0, y1⟩) := by show _ = _; unfold wtO nv; rw [HY0.out, HY1.out]
      clear l r g K1 M1 HRB HXB
      go_upto_region 11 with fail
      clear c0 f0
      generalize q2.setCell ⟨wr.heap.size, 1, none⟩ (.int .i64 y1) = q2' at K2 ⊢
      have x0 := (blk_cell K2.out.xb 0 (x := .int .i64 y0) rfl).1
      have x1 := (blk_cell K2.out.xb 1 (x := .int .i64 y1) rfl).1
      have c4 := (blk_cell K2.out.lc.b 4 (x := .slice a k c) rfl).1
      have HSZ : Hid (w.heap.size + 2 ≤ q2'.heap.size) := K2.out.lc.size
      have KO : OwnW (q2'.alloc (.cells #[.int .i64 y0, .int .i64 y1] 61)) (w.heap.size + 2) (.slice a k c) ms := K2.out.ow.alloc _
      have KL : Hid (Lc w (q2'.alloc (.cells #[.int .i64 y0, .int .i64 y1] 61)) p B 37 #[.string ⟨#[]⟩, .int .i64 0, .int .i64 0, .int .i64 0, .slice none 0 0] #[.string z0, .int .i64 z1, .int .i64 (z2 - 1), .int .i64 z3, .slice a k c] (tkR 2 (tkR 1 qs)) (tkS 2 (tkR 1 qs) (tkS 1 qs sa))) := K2.out.lc.alloc _
      have KR : Hid (RowW (q2'.alloc (.cells #[.int .i64 y0, .int .i64 y1] 61)) (.slice (some ⟨q2'.heap.size, 0, none⟩) 1 1) [⟨y0, y1⟩]) := row_one q2' ⟨y0, y1⟩
      clear K2
      go_wp2_with (at_builtin; go_must (refine appW (by rfl) _ _ 35 (by rfl) i0 Try.underlying35 hi0 hz0 hz1 hz2 (w.heap.size + 2) (q2'.alloc (.cells #[.int .i64 y0, .int .i64 y1] 61)) (q2'.alloc (.cells #[.int .i64 y0, .int .i64 y1] 61)) _ _ ms [⟨y0, y1⟩] (by rfl) KO (Below.refl _ _) (by rw [size_new]; have := HSZ.out; omega) (by rfl) KR.out (by have := HLN.out; simpa using this) ?_; intro v5 q5 o5 b5 k5; have l5 := KL.out.kept b5.size (fun g hg => (KO.lt g hg).1) b5 k5; obtain ⟨a5, cap5, rfl⟩ := o5.slice; obtain ⟨s5, f5⟩ := blk_cell l5.b 4 (x := .slice a k c) rfl))
      rw [← HWT.out, ← HES.out.1, HLK.out] at o5
      have HL6 : Hid (Lc w (q5.setCell ⟨w.heap.size + 1, 4, none⟩ (.slice a5 (k + 1) cap5)) p B 37 #[.string ⟨#[]⟩, .int .i64 0, .int .i64 0, .int .i64 0, .slice none 0 0] #[.string z0, .int .i64 z1, .int .i64 (z2 - 1), .int .i64 z3, .slice a5 (k + 1) cap5] (itR wtR (k + 1) ys) (itS wtR wtS (k + 1) ys s0) ∧ OwnW (q5.setCell ⟨w.heap.size + 1, 4, none⟩ (.slice a5 (k + 1) cap5)) (w.heap.size + 2) (.slice a5 (k + 1) cap5) (itL wtR wtO (k + 1) ys)) := by
        rw [HES.out.2.1, HES.out.2.2]
        exact ⟨l5.set 4 _, o5.kept fun g hg => blk_far (by have := (o5.lt g hg).1; omega) 4 _⟩
      have hml : ms.length = k := by rw [← HMS.out]; exact itL_len _ _ _ _
      simp only [hml]
      exact ⟨⟨k + 1, a5, cap5, by omega, by go_num, HL6⟩, by simp [intOf]; omega⟩
    · obtain rfl : k = n := by omega
      have HQ := HT.out
      go_upto_region 13 with fail
      obtain ⟨ca0, fa0⟩ := blk_cell HQ.1.a 0 (x := .string ⟨#[]⟩) rfl
      have cb0 := (blk_cell HQ.1.b 0 (x := .string z0) rfl).1
      obtain ⟨ca1, fa1⟩ := blk_cell HQ.1.a 1 (x := .int .i64 0) rfl
      have cb1 := (blk_cell HQ.1.b 1 (x := .int .i64 z1) rfl).1
      obtain ⟨ca2, fa2⟩ := blk_cell HQ.1.a 2 (x := .int .i64 0) rfl
      have cb2 := (blk_cell HQ.1.b 2 (x := .int .i64 (z2 - 1)) rfl).1
      obtain ⟨ca3, fa3⟩ := blk_cell HQ.1.a 3 (x := .int .i64 0) rfl
      have cb3 := (blk_cell HQ.1.b 3 (x := .int .i64 z3) rfl).1
      obtain ⟨ca4, fa4⟩ := blk_cell HQ.1.a 4 (x := .slice none 0 0) rfl
      have cb4 := (blk_cell HQ.1.b 4 (x := .slice a k c) rfl).1
      have HFIN : Hid (Lc w (((((wr.setCell ⟨w.heap.size, 0, none⟩ (.string z0)).setCell ⟨w.heap.size, 1, none⟩ (.int .i64 z1)).setCell ⟨w.heap.size, 2, none⟩ (.int .i64 (z2 - 1))).setCell ⟨w.heap.size, 3, none⟩ (.int .i64 z3)).setCell ⟨w.heap.size, 4, none⟩ (.slice a k c)) p B 37 #[.string z0, .int .i64 z1, .int .i64 (z2 - 1), .int .i64 z3, .slice a k c] #[.string z0, .int .i64 z1, .int .i64 (z2 - 1), .int .i64 z3, .slice a k c] (itR wtR k ys) (itS wtR wtS k ys s0) ∧ OwnW (((((wr.setCell ⟨w.heap.size, 0, none⟩ (.string z0)).setCell ⟨w.heap.size, 1, none⟩ (.int .i64 z1)).setCell ⟨w.heap.size, 2, none⟩ (.int .i64 (z2 - 1))).setCell ⟨w.heap.size, 3, none⟩ (.int .i64 z3)).setCell ⟨w.heap.size, 4, none⟩ (.slice a k c)) (w.heap.size + 2) (.slice a k c) (itL wtR wtO k ys)) :=
        ⟨HQ.1.far0 0 _ |>.far0 1 _ |>.far0 2 _ |>.far0 3 _ |>.far0 4 _, HQ.2.kept fun g hg => by have h2 := (HQ.2.lt g hg).1; exact (blk_far (by omega) 4 _).trans ((blk_far (by omega) 3 _).trans ((blk_far (by omega) 2 _).trans ((blk_far (by omega) 1 _).trans (blk_far (by omega) 0 _))))⟩
      clear HQ HT
      go_wp2_with fail
      generalize (((((wr.setCell ⟨w.heap.size, 0, none⟩ (.string z0)).setCell ⟨w.heap.size, 1, none⟩ (.int .i64 z1)).setCell ⟨w.heap.size, 2, none⟩ (.int .i64 (z2 - 1))).setCell ⟨w.heap.size, 3, none⟩ (.int .i64 z3)).setCell ⟨w.heap.size, 4, none⟩ (.slice a k c)) = wf at HFIN ⊢
      have d0 := (blk_cell HFIN.out.1.a 0 (x := .string z0) rfl).1
      have d1 := (blk_cell HFIN.out.1.a 1 (x := .int .i64 z1) rfl).1
      have d2 := (blk_cell HFIN.out.1.a 2 (x := .int .i64 (z2 - 1)) rfl).1
      have d3 := (blk_cell HFIN.out.1.a 3 (x := .int .i64 z3) rfl).1
      have d4 := (blk_cell HFIN.out.1.a 4 (x := .slice a k c) rfl).1
      refine bodyPost_ret (v := .agg #[.string z0, .int .i64 z1, .int .i64 (z2 - 1), .int .i64 z3, .slice a k c]) (by simp [results, Try.results77, go_sem, d0, d1, d2, d3, d4]) rfl ⟨.slice a k c, ?_, ?_, ?_, HFIN.out.1.gr⟩
      · rw [HEO.out]; rfl
      · rw [HEO.out]; exact HFIN.out.2.mono (by omega)
      · rw [HER.out.1, HER.out.2]; exact HFIN.out.1.rd
end Go.Proofs.Ytkjbdemhpnhagaa.Ur
