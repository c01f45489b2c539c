/- A certificate is made: the specification's MakeCertificate. -/
import Derived.Test.YtiflfcpoajijaaaGreatDoorJMakeCertificate26
import Derived.Test.YtiflfcpoajijaaaGreatDoorJMakeCertificate31
namespace Go.Proofs.YtiflfcpoajijaaaGreatDoor.Kc
open Go.RowKit Go.Proofs.YtiflfcpoajijaaaGreatDoor.Sl Go.Proofs.YtiflfcpoajijaaaGreatDoor.By Go.Proofs.YtiflfcpoajijaaaGreatDoor.Ap Go.Proofs.YtiflfcpoajijaaaGreatDoor.Tx Go.Proofs.YtiflfcpoajijaaaGreatDoor.Sh Go.Proofs.YtiflfcpoajijaaaGreatDoor.Sg Go.Proofs.YtiflfcpoajijaaaGreatDoor.Ns
open Go.Proofs.YtiflfcpoajijaaaGreatDoor.Gh (sgC sgI sgA sgB sgP sg_go gC_tx len32)
open Go.Proofs.YtiflfcpoajijaaaGreatDoor.Gr12 (Gg gV grB grB_parts grB_ok nmd_of tx tx_small specGrantOK_any l12Text_any)
open Go.Proofs.YtiflfcpoajijaaaGreatDoor.Is (RowI OwnI info3)
open Go.Proofs.YtiflfcpoajijaaaGreatDoor.Hf (inR)
open Go.Proofs.YtiflfcpoajijaaaGreatDoor.Tm (fCode fOut f_cases)
open Go.Proofs.YtiflfcpoajijaaaGreatDoor.Mb (dig)
open Go.Proofs.YtiflfcpoajijaaaGreatDoor.Ka (keysTo)
open Go.Proofs.YtiflfcpoajijaaaGreatDoor.Pa (pathN)
theorem nest1 (W : World) (a : Obj) : (W.alloc a).heap[W.heap.size]? = some a := heap_alloc_new _ _
theorem nest2 (W : World) (a b : Obj) : ((W.alloc a).alloc b).heap[W.heap.size]? = some a ∧ ((W.alloc a).alloc b).heap[W.heap.size + 1]? = some b :=
  ⟨(Below.heap_alloc _ _ _ (by rw [Rg.size_new]; omega)).trans (nest1 _ _), by have := nest1 (W.alloc a) b; rw [Rg.size_new] at this; exact this⟩
theorem nest3 (W : World) (a b c : Obj) : (((W.alloc a).alloc b).alloc c).heap[W.heap.size]? = some a ∧ (((W.alloc a).alloc b).alloc c).heap[W.heap.size + 1]? = some b ∧ (((W.alloc a).alloc b).alloc c).heap[W.heap.size + 1 + 1]? = some c :=
  ⟨(Below.heap_alloc _ _ _ (by rw [Rg.size_new, Rg.size_new]; omega)).trans (nest2 _ _ _).1, (Below.heap_alloc _ _ _ (by rw [Rg.size_new, Rg.size_new]; omega)).trans (nest2 _ _ _).2, by have := nest1 ((W.alloc a).alloc b) c; rw [Rg.size_new, Rg.size_new] at this; exact this⟩
theorem belA {w1 W : World} (h : Below w1.heap.size w1 W) (o : Obj) : Below w1.heap.size w1 (W.alloc o) := h.alloc h.size o
theorem belS {w1 W : World} (h : Below w1.heap.size w1 W) (x i : Nat) (v : Value) (hx : w1.heap.size ≤ x) : Below w1.heap.size w1 (W.setCell ⟨x, i, none⟩ v) := Below.setCell h (p := ⟨x, i, none⟩) hx v
theorem ownI_alloc {W : World} {B : Nat} {v : Value} {ns : List Int} (h : OwnI W B v ns) (o : Obj) : OwnI (W.alloc o) B v ns := ownI_kept h (fun g hg => Below.heap_alloc _ _ _ (ownI_lt h g hg).2)
/-- 'append([]int{}, u...)' while the order is drawn. -/
theorem step_appI {P : Program} {ops : Array Oper} {o : Oper} {a : Act} {K : Act → World → Prop} {Q : Exit → Act → World → Prop} {E : Prop} {i : TypeInfo} (hgd : o.guard = none) (s z : Operand) (t : TypeId) (ho : o.op = .call { callee := .builtin .append, args := #[s, z], argTypes := #[t, t] }) (ht : P.underlying t = some (.slice 3)) (hi : P.info? 3 = some i) (hz : i.zero = some (.int .i64 0))
    (hsize : i.size = 1) (hby : i.bytes = 8) (w1 W : World) (xs : List Int) (bF oF cap : Nat) (g : Nat) (hs : a.eval s = .slice (some ⟨g, 0, none⟩) 0 0) (hx : a.eval z = .slice (some ⟨bF, oF, none⟩) xs.length cap) (hg : W.heap[g]? = some (.cells #[] 3 (0, 0))) (hge : w1.heap.size ≤ g) (hb : Below w1.heap.size w1 W) (hu : ∀ W, Below w1.heap.size w1 W → ∀ (i : Nat) x, xs[i]? = some x → W.cell? ⟨bF, oF + i, none⟩ = some (.int .i64 x)) (hlen : xs.length ≤ 1000)
    (h : ∀ v' w', OwnI w' w1.heap.size v' xs → Below w1.heap.size w1 w' → (∀ k o', W.heap[k]? = some o' → k ≠ g → w'.heap[k]? = some o') → K (a.put o.dst v') w') : if Region.wanted o (yielded ops a.tmps) = true then Oper.wp P o a W K Q else E := by
  have hw : Region.wanted o (yielded ops a.tmps) = true := by simp [Region.wanted, hgd]
  rw [if_pos hw]
  have hown : OwnI W w1.heap.size (.slice (some ⟨g, 0, none⟩) 0 0) [] := ⟨rfl, .inr ⟨g, 0, #[], rfl, hge, hg, Nat.le_refl _, by simp, by simp, by simp⟩⟩
  have hsrc : ∀ j u, (xs.map (Value.int .i64))[j]? = some u → W.cell? ((⟨bF, oF, none⟩ : Addr).add j) = some u := fun j u hj => by
    rw [List.getElem?_map] at hj
    obtain ⟨x, hx1, rfl⟩ := Option.map_eq_some_iff.1 hj
    have h2 : (⟨bF, oF, none⟩ : Addr).add j = ⟨bF, oF + j, none⟩ := by unfold Addr.add; split <;> simp_all
    rw [h2]
    exact hu W hb j x hx1
  obtain ⟨v', w', hr, h2, h3, _, _⟩ := run_append_own_at (P := P) W w1.heap.size t o.type 3 i _ 1 8 ht hi hz hsize hby rfl (by decide) _ 0 _ hown ⟨bF, oF, none⟩ xs.length cap (xs.map (Value.int .i64)) (by simp) hsrc (fun u hu2 => by obtain ⟨x, _, rfl⟩ := List.mem_map.1 hu2; rfl) (by unfold maxLen; omega) (by omega) hb.size
  exact wp_app ho hs hx hr (h v' w' (by unfold OwnI; simpa using h2) (hb.grown h3 hb.size (fun k hk => by cases hk; exact hge)) (fun k o' hk hne => (h3.block k (Array.getElem?_eq_some_iff.1 hk).1 (fun e => hne (by injection e))).trans hk))
def FinC (w1 : World) (g : Gg) (ns : List Int) (px : Value) (wx : World) : Prop := ∃ x gA a5 k5, px = .pointer (some ⟨x, 0, none⟩) ∧ wx.heap[x]? = some (.cells #[.string g.nm, .int .i64 g.hd, .int .i64 g.tk, .int .i64 g.ex, .slice a5 ns.length k5, .slice (some ⟨gA, 0, none⟩) 0 0] 31 (0, 0)) ∧ wx.heap[gA]? = some (.cells #[] 37 (0, 0)) ∧ OwnI wx w1.heap.size (.slice a5 ns.length k5) ns ∧ Below w1.heap.size w1 wx ∧ w1.heap.size ≤ x ∧ w1.heap.size ≤ gA
theorem set6 {W : World} {x : Nat} {z0 z1 z2 z3 z4 z5 : Value} (hX : W.heap[x]? = some (.cells #[z0, z1, z2, z3, z4, z5] 31 (0, 0))) (a b c d e f : Value) : ((((((W.setCell ⟨x, 0, none⟩ a).setCell ⟨x, 1, none⟩ b).setCell ⟨x, 2, none⟩ c).setCell ⟨x, 3, none⟩ d).setCell ⟨x, 4, none⟩ e).setCell ⟨x, 5, none⟩ f).heap[x]? = some (.cells #[a, b, c, d, e, f] 31 (0, 0)) := Rg.blk_set (Rg.blk_set (Rg.blk_set (Rg.blk_set (Rg.blk_set (Rg.blk_set hX 0 a) 1 b) 2 c) 3 d) 4 e) 5 f
theorem far6 {W : World} {x k : Nat} (hk : k ≠ x) (a b c d e f : Value) : ((((((W.setCell ⟨x, 0, none⟩ a).setCell ⟨x, 1, none⟩ b).setCell ⟨x, 2, none⟩ c).setCell ⟨x, 3, none⟩ d).setCell ⟨x, 4, none⟩ e).setCell ⟨x, 5, none⟩ f).heap[k]? = W.heap[k]? := (Rg.blk_far hk 5 f).trans ((Rg.blk_far hk 4 e).trans ((Rg.blk_far hk 3 d).trans ((Rg.blk_far hk 2 c).trans ((Rg.blk_far hk 1 b).trans (Rg.blk_far hk 0 a)))))
theorem fin2 {w1 W : World} {g : Gg} {ns : List Int} {x gA : Nat} {a5 : Option Addr} {k5 : Nat} {z0 z1 z2 z3 z4 z5 : Value} (hX : W.heap[x]? = some (.cells #[z0, z1, z2, z3, z4, z5] 31 (0, 0))) (hA : W.heap[gA]? = some (.cells #[] 37 (0, 0))) (o5 : OwnI W w1.heap.size (.slice a5 ns.length k5) ns) (b5 : Below w1.heap.size w1 W) (hx : w1.heap.size ≤ x) (hg : w1.heap.size ≤ gA) :
    FinC w1 g ns (.pointer (some ⟨x, 0, none⟩)) ((((((W.setCell ⟨x, 0, none⟩ (.string g.nm)).setCell ⟨x, 1, none⟩ (.int .i64 g.hd)).setCell ⟨x, 2, none⟩ (.int .i64 g.tk)).setCell ⟨x, 3, none⟩ (.int .i64 g.ex)).setCell ⟨x, 4, none⟩ (.slice a5 ns.length k5)).setCell ⟨x, 5, none⟩ (.slice (some ⟨gA, 0, none⟩) 0 0)) :=
  ⟨x, gA, a5, k5, rfl, set6 hX _ _ _ _ _ _, (far6 (kind_ne hA hX (by decide)) _ _ _ _ _ _).trans hA, ownI_kept o5 (fun g hg => by obtain ⟨_, _, hc⟩ := ownI_kind o5 g hg; exact far6 (kind_ne hc hX (by decide)) _ _ _ _ _ _), belS (belS (belS (belS (belS (belS b5 _ _ _ hx) _ _ _ hx) _ _ _ hx) _ _ _ hx) _ _ _ hx) _ _ _ hx, hx, hg⟩
theorem fin1 {w1 W : World} {g : Gg} {ns : List Int} {gA : Nat} {a5 : Option Addr} {k5 : Nat} (hA : W.heap[gA]? = some (.cells #[] 37 (0, 0))) (o5 : OwnI W w1.heap.size (.slice a5 ns.length k5) ns) (b5 : Below w1.heap.size w1 W) (hg : w1.heap.size ≤ gA) :
    FinC w1 g ns (.pointer (some ⟨W.heap.size, 0, none⟩)) (W.alloc (.cells #[.string g.nm, .int .i64 g.hd, .int .i64 g.tk, .int .i64 g.ex, .slice a5 ns.length k5, .slice (some ⟨gA, 0, none⟩) 0 0] 31)) :=
  ⟨W.heap.size, gA, a5, k5, rfl, heap_alloc_new _ _, (Below.heap_alloc _ _ _ (Array.getElem?_eq_some_iff.1 hA).1).trans hA, ownI_alloc o5 _, belA b5 _, b5.size, hg⟩
theorem fin3 {w1 W : World} {g : Gg} {ns : List Int} {a5 : Option Addr} {k5 : Nat} (o5 : OwnI W w1.heap.size (.slice a5 ns.length k5) ns) (b5 : Below w1.heap.size w1 W) :
    FinC w1 g ns (.pointer (some ⟨W.heap.size + 1, 0, none⟩)) ((W.alloc (.cells #[] 37)).alloc (.cells #[.string g.nm, .int .i64 g.hd, .int .i64 g.tk, .int .i64 g.ex, .slice a5 ns.length k5, .slice (some ⟨W.heap.size, 0, none⟩) 0 0] 31)) :=
  ⟨W.heap.size + 1, W.heap.size, a5, k5, rfl, (nest2 _ _ _).2, (nest2 _ _ _).1, ownI_alloc (ownI_alloc o5 _) _, belA (belA b5 _) _, Nat.le_succ_of_le b5.size, b5.size⟩
theorem fin4 {w1 W : World} {g : Gg} {ns : List Int} {a5 : Option Addr} {k5 : Nat} (o5 : OwnI W w1.heap.size (.slice a5 ns.length k5) ns) (b5 : Below w1.heap.size w1 W) :
    FinC w1 g ns (.pointer (some ⟨W.heap.size, 0, none⟩)) ((W.alloc (.cells #[.string g.nm, .int .i64 g.hd, .int .i64 g.tk, .int .i64 g.ex, .slice a5 ns.length k5, .slice (some ⟨W.heap.size + 1, 0, none⟩) 0 0] 31)).alloc (.cells #[] 37)) :=
  ⟨W.heap.size, W.heap.size + 1, a5, k5, rfl, (nest2 _ _ _).1, (nest2 _ _ _).2, ownI_alloc (ownI_alloc o5 _) _, belA (belA b5 _) _, b5.size, Nat.le_succ_of_le b5.size⟩
theorem fin5 {w1 W : World} {g : Gg} {ns : List Int} {x : Nat} {a5 : Option Addr} {k5 : Nat} {z0 z1 z2 z3 z4 z5 : Value} (hX : W.heap[x]? = some (.cells #[z0, z1, z2, z3, z4, z5] 31 (0, 0))) (o5 : OwnI W w1.heap.size (.slice a5 ns.length k5) ns) (b5 : Below w1.heap.size w1 W) (hx : w1.heap.size ≤ x) :
    FinC w1 g ns (.pointer (some ⟨x, 0, none⟩)) (((((((W.alloc (.cells #[] 37)).setCell ⟨x, 0, none⟩ (.string g.nm)).setCell ⟨x, 1, none⟩ (.int .i64 g.hd)).setCell ⟨x, 2, none⟩ (.int .i64 g.tk)).setCell ⟨x, 3, none⟩ (.int .i64 g.ex)).setCell ⟨x, 4, none⟩ (.slice a5 ns.length k5)).setCell ⟨x, 5, none⟩ (.slice (some ⟨W.heap.size, 0, none⟩) 0 0)) :=
  fin2 ((Below.heap_alloc _ _ _ (Array.getElem?_eq_some_iff.1 hX).1).trans hX) (heap_alloc_new _ _) (ownI_alloc o5 _) (belA b5 _) hx b5.size
theorem ret_mc {v : Value} {a b : Int} (h : a = b) : Ending.returned (.tuple #[v, .int .i64 a]) = .returned (.tuple #[v, .int .i64 b]) := by rw [h]
set_option maxRecDepth 100000 in
set_option maxHeartbeats 6400000 in
theorem specMakeC_bad (n : Int) (g : Gg) (v : Value) (ns : List Int) (ix : Int) (w : World) (zg : g.nm.size ≤ maxLen) (h : RowI w v ns) (hl : ns.length ≤ 1048576) (hm : ¬ mfC n g ns ix = 0) :
    Calls Tryz.prog 16 #[.int .i64 n, gV g, v, .int .i64 ix] w fun e w' => e = .returned (.tuple #[.agg #[.string ⟨#[]⟩, .int .i64 0, .int .i64 0, .int .i64 0, .slice none 0 0, .slice none 0 0], .int .i64 (mfC n g ns ix)]) ∧ Below w.heap.size w w' := by
  have HO : Hid (∀ W, Calls Tryz.prog 38 #[.agg #[.string g.nm, .int .i64 g.hd, .int .i64 g.tk, .int .i64 g.ex]] W fun e w' => e = .returned (.bool (grB g)) ∧ Below W.heap.size W w') := fun W => specGrantOK_any g W zg
  have HNO : Hid (∀ W, Calls Tryz.prog 39 #[.int .i64 n] W fun e w' => e = .returned (.bool (decide (fCode n = 0))) ∧ W = w') := fun W => Qm.l04Nodes_any n W
  have HIN : Hid (∀ W, Calls Tryz.prog 44 #[.int .i64 ix, .int .i64 0, .int .i64 7] W fun e w' => e = .returned (.bool (inR ix 0 7)) ∧ W = w') := fun W => Hf.l01In_any ix 0 7 W
  have HFR : Hid (∀ W, Below w.heap.size w W → fCode n = 0 → Calls Tryz.prog 40 #[.int .i64 n, v] W fun e w' => e = .returned (.bool (decide (cfC n ns = 0))) ∧ Below W.heap.size W w') := fun W hW hf => l12From_any n v ns W (h.below hW) hl hf
  have HX : Hid (∀ W, Below ((w.alloc (.cells #[.string g.nm, .int .i64 g.hd, .int .i64 g.tk, .int .i64 g.ex] 24)).alloc (.cells #[.string ⟨#[]⟩, .int .i64 0, .int .i64 0, .int .i64 0, .slice none 0 0, .slice none 0 0] 31)).heap.size ((w.alloc (.cells #[.string g.nm, .int .i64 g.hd, .int .i64 g.tk, .int .i64 g.ex] 24)).alloc (.cells #[.string ⟨#[]⟩, .int .i64 0, .int .i64 0, .int .i64 0, .slice none 0 0, .slice none 0 0] 31)) W → (W.heap[w.heap.size]? = some (.cells #[.string g.nm, .int .i64 g.hd, .int .i64 g.tk, .int .i64 g.ex] 24 (0, 0)) ∧ W.heap[w.heap.size + 1]? = some (.cells #[.string ⟨#[]⟩, .int .i64 0, .int .i64 0, .int .i64 0, .slice none 0 0, .slice none 0 0] 31 (0, 0))) ∧ Below w.heap.size w W) := fun W hW => by
    have e2 : ((w.alloc (.cells #[.string g.nm, .int .i64 g.hd, .int .i64 g.tk, .int .i64 g.ex] 24)).alloc (.cells #[.string ⟨#[]⟩, .int .i64 0, .int .i64 0, .int .i64 0, .slice none 0 0, .slice none 0 0] 31)).heap.size = w.heap.size + 1 + 1 := by rw [Rg.size_new, Rg.size_new]
    have h0 : ((w.alloc (.cells #[.string g.nm, .int .i64 g.hd, .int .i64 g.tk, .int .i64 g.ex] 24)).alloc (.cells #[.string ⟨#[]⟩, .int .i64 0, .int .i64 0, .int .i64 0, .slice none 0 0, .slice none 0 0] 31)).heap[w.heap.size]? = some (.cells #[.string g.nm, .int .i64 g.hd, .int .i64 g.tk, .int .i64 g.ex] 24 (0, 0)) := (Below.heap_alloc _ _ _ (by simp)).trans (heap_alloc_new w _)
    have h1 : ((w.alloc (.cells #[.string g.nm, .int .i64 g.hd, .int .i64 g.tk, .int .i64 g.ex] 24)).alloc (.cells #[.string ⟨#[]⟩, .int .i64 0, .int .i64 0, .int .i64 0, .slice none 0 0, .slice none 0 0] 31)).heap[w.heap.size + 1]? = some (.cells #[.string ⟨#[]⟩, .int .i64 0, .int .i64 0, .int .i64 0, .slice none 0 0, .slice none 0 0] 31 (0, 0)) := by
      have := heap_alloc_new (w.alloc (.cells #[.string g.nm, .int .i64 g.hd, .int .i64 g.tk, .int .i64 g.ex] 24)) (.cells #[.string ⟨#[]⟩, .int .i64 0, .int .i64 0, .int .i64 0, .slice none 0 0, .slice none 0 0] 31)
      rw [Rg.size_new] at this
      exact this
    have b0 : Below w.heap.size w ((w.alloc (.cells #[.string g.nm, .int .i64 g.hd, .int .i64 g.tk, .int .i64 g.ex] 24)).alloc (.cells #[.string ⟨#[]⟩, .int .i64 0, .int .i64 0, .int .i64 0, .slice none 0 0, .slice none 0 0] 31)) := (Rg.bel_new w _).trans ((Rg.bel_new _ _).mono (by simp))
    exact ⟨⟨(hW.block _ (by omega)).trans h0, (hW.block _ (by omega)).trans h1⟩, b0.trans (hW.mono b0.size)⟩
  obtain ⟨a, cap, rfl, _⟩ := h
  clear zg
  unfold gV
  by_cases hb : 4096 < ns.length
  · have HE : Hid (mfC n g ns ix = 2) := by show _ = _; unfold mfC; rw [if_pos hb]
    have hb' : (4096 : Int) < (ns.length : Int) := by omega
    clear hb hm
    go_enter Tryz.func16, Tryz.ntmps16
    go_upto_region 1 with fail
    generalize ((w.alloc (.cells #[.string g.nm, .int .i64 g.hd, .int .i64 g.tk, .int .i64 g.ex] 24)).alloc (.cells #[.string ⟨#[]⟩, .int .i64 0, .int .i64 0, .int .i64 0, .slice none 0 0, .slice none 0 0] 31)) = wb at HX ⊢
    have HBW : Hid (Below wb.heap.size wb wb) := Below.refl _ _
    have HBZ : Hid (wb.heap[w.heap.size + 1]? = some (.cells #[.string ⟨#[]⟩, .int .i64 0, .int .i64 0, .int .i64 0, .slice none 0 0, .slice none 0 0] 31 (0, 0)) ∧ Below w.heap.size w wb) := ⟨(HX.out wb HBW.out).1.2, (HX.out wb HBW.out).2⟩
    obtain ⟨z0, zf0⟩ := Rg.blk_cell HBZ.out.1 0 (x := .string ⟨#[]⟩) rfl
    obtain ⟨z1, zf1⟩ := Rg.blk_cell HBZ.out.1 1 (x := .int .i64 0) rfl
    obtain ⟨z2, zf2⟩ := Rg.blk_cell HBZ.out.1 2 (x := .int .i64 0) rfl
    obtain ⟨z3, zf3⟩ := Rg.blk_cell HBZ.out.1 3 (x := .int .i64 0) rfl
    obtain ⟨z4, zf4⟩ := Rg.blk_cell HBZ.out.1 4 (x := .slice none 0 0) rfl
    obtain ⟨z5, zf5⟩ := Rg.blk_cell HBZ.out.1 5 (x := .slice none 0 0) rfl
    have AF : ((((((wb.setCell ⟨w.heap.size + 1, 0, none⟩ (.string ⟨#[]⟩)).setCell ⟨w.heap.size + 1, 1, none⟩ (.int .i64 0)).setCell ⟨w.heap.size + 1, 2, none⟩ (.int .i64 0)).setCell ⟨w.heap.size + 1, 3, none⟩ (.int .i64 0)).setCell ⟨w.heap.size + 1, 4, none⟩ (.slice none 0 0)).setCell ⟨w.heap.size + 1, 5, none⟩ (.slice none 0 0)).heap[w.heap.size + 1]? = some (.cells #[.string ⟨#[]⟩, .int .i64 0, .int .i64 0, .int .i64 0, .slice none 0 0, .slice none 0 0] 31 (0, 0)) := (Rg.blk_set (Rg.blk_set (Rg.blk_set (Rg.blk_set (Rg.blk_set (Rg.blk_set HBZ.out.1 _ _) _ _) _ _) _ _) _ _) _ _)
    have BF : Below w.heap.size w ((((((wb.setCell ⟨w.heap.size + 1, 0, none⟩ (.string ⟨#[]⟩)).setCell ⟨w.heap.size + 1, 1, none⟩ (.int .i64 0)).setCell ⟨w.heap.size + 1, 2, none⟩ (.int .i64 0)).setCell ⟨w.heap.size + 1, 3, none⟩ (.int .i64 0)).setCell ⟨w.heap.size + 1, 4, none⟩ (.slice none 0 0)).setCell ⟨w.heap.size + 1, 5, none⟩ (.slice none 0 0)) := (Below.setCell (Below.setCell (Below.setCell (Below.setCell (Below.setCell (Below.setCell HBZ.out.2 (p := ⟨w.heap.size + 1, 0, none⟩) (Nat.le_succ _) (.string ⟨#[]⟩)) (p := ⟨w.heap.size + 1, 1, none⟩) (Nat.le_succ _) (.int .i64 0)) (p := ⟨w.heap.size + 1, 2, none⟩) (Nat.le_succ _) (.int .i64 0)) (p := ⟨w.heap.size + 1, 3, none⟩) (Nat.le_succ _) (.int .i64 0)) (p := ⟨w.heap.size + 1, 4, none⟩) (Nat.le_succ _) (.slice none 0 0)) (p := ⟨w.heap.size + 1, 5, none⟩) (Nat.le_succ _) (.slice none 0 0))
    go_wp2_with fail
    generalize ((((((wb.setCell ⟨w.heap.size + 1, 0, none⟩ (.string ⟨#[]⟩)).setCell ⟨w.heap.size + 1, 1, none⟩ (.int .i64 0)).setCell ⟨w.heap.size + 1, 2, none⟩ (.int .i64 0)).setCell ⟨w.heap.size + 1, 3, none⟩ (.int .i64 0)).setCell ⟨w.heap.size + 1, 4, none⟩ (.slice none 0 0)).setCell ⟨w.heap.size + 1, 5, none⟩ (.slice none 0 0)) = wf at AF BF ⊢
    have d0 := (Rg.blk_cell AF 0 (x := .string ⟨#[]⟩) rfl).1
    have d1 := (Rg.blk_cell AF 1 (x := .int .i64 0) rfl).1
    have d2 := (Rg.blk_cell AF 2 (x := .int .i64 0) rfl).1
    have d3 := (Rg.blk_cell AF 3 (x := .int .i64 0) rfl).1
    have d4 := (Rg.blk_cell AF 4 (x := .slice none 0 0) rfl).1
    have d5 := (Rg.blk_cell AF 5 (x := .slice none 0 0) rfl).1
    exact bodyPost_ret (v := .tuple #[.agg #[.string ⟨#[]⟩, .int .i64 0, .int .i64 0, .int .i64 0, .slice none 0 0, .slice none 0 0], .int .i64 2]) (by simp [results, Tryz.results16, go_sem, d0, d1, d2, d3, d4, d5]) rfl ⟨ret_mc HE.out.symm, BF⟩
  have hb' : ¬ (4096 : Int) < (ns.length : Int) := by omega
  cases hg : grB g with
  | false =>
    have HE : Hid (mfC n g ns ix = 1) := by show _ = _; unfold mfC; rw [if_neg hb, hg]; rfl
    rw [hg] at HO
    clear hg hb hm
    go_enter Tryz.func16, Tryz.ntmps16
    go_upto_region 1 with fail
    generalize ((w.alloc (.cells #[.string g.nm, .int .i64 g.hd, .int .i64 g.tk, .int .i64 g.ex] 24)).alloc (.cells #[.string ⟨#[]⟩, .int .i64 0, .int .i64 0, .int .i64 0, .slice none 0 0, .slice none 0 0] 31)) = wb at HX ⊢
    have X0 := HX.out wb (Below.refl _ _)
    have c0 := (Rg.blk_cell X0.1.1 0 (x := .string g.nm) rfl).1
    have c1 := (Rg.blk_cell X0.1.1 1 (x := .int .i64 g.hd) rfl).1
    have c2 := (Rg.blk_cell X0.1.1 2 (x := .int .i64 g.tk) rfl).1
    have c3 := (Rg.blk_cell X0.1.1 3 (x := .int .i64 g.ex) rfl).1
    clear X0
    go_wp2_with fail
    refine (HO.out _).mono ?_
    rintro e w2 ⟨rfl, b2⟩
    have B2 : Hid (Below wb.heap.size wb w2) := b2
    clear b2 c0 c1 c2 c3
    have HBW := B2
    have HBZ : Hid (w2.heap[w.heap.size + 1]? = some (.cells #[.string ⟨#[]⟩, .int .i64 0, .int .i64 0, .int .i64 0, .slice none 0 0, .slice none 0 0] 31 (0, 0)) ∧ Below w.heap.size w w2) := ⟨(HX.out w2 HBW.out).1.2, (HX.out w2 HBW.out).2⟩
    obtain ⟨z0, zf0⟩ := Rg.blk_cell HBZ.out.1 0 (x := .string ⟨#[]⟩) rfl
    obtain ⟨z1, zf1⟩ := Rg.blk_cell HBZ.out.1 1 (x := .int .i64 0) rfl
    obtain ⟨z2, zf2⟩ := Rg.blk_cell HBZ.out.1 2 (x := .int .i64 0) rfl
    obtain ⟨z3, zf3⟩ := Rg.blk_cell HBZ.out.1 3 (x := .int .i64 0) rfl
    obtain ⟨z4, zf4⟩ := Rg.blk_cell HBZ.out.1 4 (x := .slice none 0 0) rfl
    obtain ⟨z5, zf5⟩ := Rg.blk_cell HBZ.out.1 5 (x := .slice none 0 0) rfl
    have AF : ((((((w2.setCell ⟨w.heap.size + 1, 0, none⟩ (.string ⟨#[]⟩)).setCell ⟨w.heap.size + 1, 1, none⟩ (.int .i64 0)).setCell ⟨w.heap.size + 1, 2, none⟩ (.int .i64 0)).setCell ⟨w.heap.size + 1, 3, none⟩ (.int .i64 0)).setCell ⟨w.heap.size + 1, 4, none⟩ (.slice none 0 0)).setCell ⟨w.heap.size + 1, 5, none⟩ (.slice none 0 0)).heap[w.heap.size + 1]? = some (.cells #[.string ⟨#[]⟩, .int .i64 0, .int .i64 0, .int .i64 0, .slice none 0 0, .slice none 0 0] 31 (0, 0)) := (Rg.blk_set (Rg.blk_set (Rg.blk_set (Rg.blk_set (Rg.blk_set (Rg.blk_set HBZ.out.1 _ _) _ _) _ _) _ _) _ _) _ _)
    have BF : Below w.heap.size w ((((((w2.setCell ⟨w.heap.size + 1, 0, none⟩ (.string ⟨#[]⟩)).setCell ⟨w.heap.size + 1, 1, none⟩ (.int .i64 0)).setCell ⟨w.heap.size + 1, 2, none⟩ (.int .i64 0)).setCell ⟨w.heap.size + 1, 3, none⟩ (.int .i64 0)).setCell ⟨w.heap.size + 1, 4, none⟩ (.slice none 0 0)).setCell ⟨w.heap.size + 1, 5, none⟩ (.slice none 0 0)) := (Below.setCell (Below.setCell (Below.setCell (Below.setCell (Below.setCell (Below.setCell HBZ.out.2 (p := ⟨w.heap.size + 1, 0, none⟩) (Nat.le_succ _) (.string ⟨#[]⟩)) (p := ⟨w.heap.size + 1, 1, none⟩) (Nat.le_succ _) (.int .i64 0)) (p := ⟨w.heap.size + 1, 2, none⟩) (Nat.le_succ _) (.int .i64 0)) (p := ⟨w.heap.size + 1, 3, none⟩) (Nat.le_succ _) (.int .i64 0)) (p := ⟨w.heap.size + 1, 4, none⟩) (Nat.le_succ _) (.slice none 0 0)) (p := ⟨w.heap.size + 1, 5, none⟩) (Nat.le_succ _) (.slice none 0 0))
    go_wp2_with fail
    generalize ((((((w2.setCell ⟨w.heap.size + 1, 0, none⟩ (.string ⟨#[]⟩)).setCell ⟨w.heap.size + 1, 1, none⟩ (.int .i64 0)).setCell ⟨w.heap.size + 1, 2, none⟩ (.int .i64 0)).setCell ⟨w.heap.size + 1, 3, none⟩ (.int .i64 0)).setCell ⟨w.heap.size + 1, 4, none⟩ (.slice none 0 0)).setCell ⟨w.heap.size + 1, 5, none⟩ (.slice none 0 0)) = wf at AF BF ⊢
    have d0 := (Rg.blk_cell AF 0 (x := .string ⟨#[]⟩) rfl).1
    have d1 := (Rg.blk_cell AF 1 (x := .int .i64 0) rfl).1
    have d2 := (Rg.blk_cell AF 2 (x := .int .i64 0) rfl).1
    have d3 := (Rg.blk_cell AF 3 (x := .int .i64 0) rfl).1
    have d4 := (Rg.blk_cell AF 4 (x := .slice none 0 0) rfl).1
    have d5 := (Rg.blk_cell AF 5 (x := .slice none 0 0) rfl).1
    exact bodyPost_ret (v := .tuple #[.agg #[.string ⟨#[]⟩, .int .i64 0, .int .i64 0, .int .i64 0, .slice none 0 0, .slice none 0 0], .int .i64 1]) (by simp [results, Tryz.results16, go_sem, d0, d1, d2, d3, d4, d5]) rfl ⟨ret_mc HE.out.symm, BF⟩
  | true =>
    rw [hg] at HO
    by_cases hf : fCode n = 0
    · rw [decide_eq_true hf] at HNO
      cases hi : inR ix 0 7 with
      | false =>
        have HE : Hid (mfC n g ns ix = 4) := by show _ = _; unfold mfC; rw [if_neg hb, if_pos hg, hi]; rfl
        rw [hi] at HIN
        clear hg hb hm hf hi
        go_enter Tryz.func16, Tryz.ntmps16
        go_upto_region 1 with fail
        generalize ((w.alloc (.cells #[.string g.nm, .int .i64 g.hd, .int .i64 g.tk, .int .i64 g.ex] 24)).alloc (.cells #[.string ⟨#[]⟩, .int .i64 0, .int .i64 0, .int .i64 0, .slice none 0 0, .slice none 0 0] 31)) = wb at HX ⊢
        have X0 := HX.out wb (Below.refl _ _)
        have c0 := (Rg.blk_cell X0.1.1 0 (x := .string g.nm) rfl).1
        have c1 := (Rg.blk_cell X0.1.1 1 (x := .int .i64 g.hd) rfl).1
        have c2 := (Rg.blk_cell X0.1.1 2 (x := .int .i64 g.tk) rfl).1
        have c3 := (Rg.blk_cell X0.1.1 3 (x := .int .i64 g.ex) rfl).1
        clear X0
        go_wp2_with fail
        refine (HO.out _).mono ?_
        rintro e w2 ⟨rfl, b2⟩
        have B2 : Hid (Below wb.heap.size wb w2) := b2
        clear b2 c0 c1 c2 c3
        have HBW := B2
        go_upto_region 6 with (first | (go_at_call 39; refine (HNO.out _).mono ?_; rintro e w3 ⟨rfl, rfl⟩) | (go_at_call 44; refine (HIN.out _).mono ?_; rintro e w3 ⟨rfl, rfl⟩))
        have HBZ : Hid (w2.heap[w.heap.size + 1]? = some (.cells #[.string ⟨#[]⟩, .int .i64 0, .int .i64 0, .int .i64 0, .slice none 0 0, .slice none 0 0] 31 (0, 0)) ∧ Below w.heap.size w w2) := ⟨(HX.out w2 HBW.out).1.2, (HX.out w2 HBW.out).2⟩
        obtain ⟨z0, zf0⟩ := Rg.blk_cell HBZ.out.1 0 (x := .string ⟨#[]⟩) rfl
        obtain ⟨z1, zf1⟩ := Rg.blk_cell HBZ.out.1 1 (x := .int .i64 0) rfl
        obtain ⟨z2, zf2⟩ := Rg.blk_cell HBZ.out.1 2 (x := .int .i64 0) rfl
        obtain ⟨z3, zf3⟩ := Rg.blk_cell HBZ.out.1 3 (x := .int .i64 0) rfl
        obtain ⟨z4, zf4⟩ := Rg.blk_cell HBZ.out.1 4 (x := .slice none 0 0) rfl
        obtain ⟨z5, zf5⟩ := Rg.blk_cell HBZ.out.1 5 (x := .slice none 0 0) rfl
        have AF : ((((((w2.setCell ⟨w.heap.size + 1, 0, none⟩ (.string ⟨#[]⟩)).setCell ⟨w.heap.size + 1, 1, none⟩ (.int .i64 0)).setCell ⟨w.heap.size + 1, 2, none⟩ (.int .i64 0)).setCell ⟨w.heap.size + 1, 3, none⟩ (.int .i64 0)).setCell ⟨w.heap.size + 1, 4, none⟩ (.slice none 0 0)).setCell ⟨w.heap.size + 1, 5, none⟩ (.slice none 0 0)).heap[w.heap.size + 1]? = some (.cells #[.string ⟨#[]⟩, .int .i64 0, .int .i64 0, .int .i64 0, .slice none 0 0, .slice none 0 0] 31 (0, 0)) := (Rg.blk_set (Rg.blk_set (Rg.blk_set (Rg.blk_set (Rg.blk_set (Rg.blk_set HBZ.out.1 _ _) _ _) _ _) _ _) _ _) _ _)
        have BF : Below w.heap.size w ((((((w2.setCell ⟨w.heap.size + 1, 0, none⟩ (.string ⟨#[]⟩)).setCell ⟨w.heap.size + 1, 1, none⟩ (.int .i64 0)).setCell ⟨w.heap.size + 1, 2, none⟩ (.int .i64 0)).setCell ⟨w.heap.size + 1, 3, none⟩ (.int .i64 0)).setCell ⟨w.heap.size + 1, 4, none⟩ (.slice none 0 0)).setCell ⟨w.heap.size + 1, 5, none⟩ (.slice none 0 0)) := (Below.setCell (Below.setCell (Below.setCell (Below.setCell (Below.setCell (Below.setCell HBZ.out.2 (p := ⟨w.heap.size + 1, 0, none⟩) (Nat.le_succ _) (.string ⟨#[]⟩)) (p := ⟨w.heap.size + 1, 1, none⟩) (Nat.le_succ _) (.int .i64 0)) (p := ⟨w.heap.size + 1, 2, none⟩) (Nat.le_succ _) (.int .i64 0)) (p := ⟨w.heap.size + 1, 3, none⟩) (Nat.le_succ _) (.int .i64 0)) (p := ⟨w.heap.size + 1, 4, none⟩) (Nat.le_succ _) (.slice none 0 0)) (p := ⟨w.heap.size + 1, 5, none⟩) (Nat.le_succ _) (.slice none 0 0))
        go_wp2_with fail
        generalize ((((((w2.setCell ⟨w.heap.size + 1, 0, none⟩ (.string ⟨#[]⟩)).setCell ⟨w.heap.size + 1, 1, none⟩ (.int .i64 0)).setCell ⟨w.heap.size + 1, 2, none⟩ (.int .i64 0)).setCell ⟨w.heap.size + 1, 3, none⟩ (.int .i64 0)).setCell ⟨w.heap.size + 1, 4, none⟩ (.slice none 0 0)).setCell ⟨w.heap.size + 1, 5, none⟩ (.slice none 0 0)) = wf at AF BF ⊢
        have d0 := (Rg.blk_cell AF 0 (x := .string ⟨#[]⟩) rfl).1
        have d1 := (Rg.blk_cell AF 1 (x := .int .i64 0) rfl).1
        have d2 := (Rg.blk_cell AF 2 (x := .int .i64 0) rfl).1
        have d3 := (Rg.blk_cell AF 3 (x := .int .i64 0) rfl).1
        have d4 := (Rg.blk_cell AF 4 (x := .slice none 0 0) rfl).1
        have d5 := (Rg.blk_cell AF 5 (x := .slice none 0 0) rfl).1
        exact bodyPost_ret (v := .tuple #[.agg #[.string ⟨#[]⟩, .int .i64 0, .int .i64 0, .int .i64 0, .slice none 0 0, .slice none 0 0], .int .i64 4]) (by simp [results, Tryz.results16, go_sem, d0, d1, d2, d3, d4, d5]) rfl ⟨ret_mc HE.out.symm, BF⟩
      | true =>
        have hc : ¬ cfC n ns = 0 := fun hc => hm (by unfold mfC; rw [if_neg hb, if_pos hg, if_pos hi, hc])
        have HE : Hid (mfC n g ns ix = 19) := by
          show _ = _
          unfold mfC
          rw [if_neg hb, if_pos hg, if_pos hi]
          unfold cfC at hc ⊢
          rw [if_pos hf] at hc ⊢
          split
          · rename_i q; rw [if_pos q] at hc; exact absurd rfl hc
          · rfl
        rw [hi] at HIN
        have HFR2 : Hid (∀ W, Below w.heap.size w W → Calls Tryz.prog 40 #[.int .i64 n, .slice a ns.length cap] W fun e w' => e = .returned (.bool false) ∧ Below W.heap.size W w') := fun W hW => by
          have q := HFR.out W hW hf
          rw [decide_eq_false hc] at q
          exact q
        clear hg hb hm hf hi hc HFR
        go_enter Tryz.func16, Tryz.ntmps16
        go_upto_region 1 with fail
        generalize ((w.alloc (.cells #[.string g.nm, .int .i64 g.hd, .int .i64 g.tk, .int .i64 g.ex] 24)).alloc (.cells #[.string ⟨#[]⟩, .int .i64 0, .int .i64 0, .int .i64 0, .slice none 0 0, .slice none 0 0] 31)) = wb at HX ⊢
        have X0 := HX.out wb (Below.refl _ _)
        have c0 := (Rg.blk_cell X0.1.1 0 (x := .string g.nm) rfl).1
        have c1 := (Rg.blk_cell X0.1.1 1 (x := .int .i64 g.hd) rfl).1
        have c2 := (Rg.blk_cell X0.1.1 2 (x := .int .i64 g.tk) rfl).1
        have c3 := (Rg.blk_cell X0.1.1 3 (x := .int .i64 g.ex) rfl).1
        clear X0
        go_wp2_with fail
        refine (HO.out _).mono ?_
        rintro e w2 ⟨rfl, b2⟩
        have B2 : Hid (Below wb.heap.size wb w2) := b2
        clear b2 c0 c1 c2 c3
        go_wp2_with (first | (go_at_call 39; refine (HNO.out _).mono ?_; rintro e w3 ⟨rfl, rfl⟩) | (go_at_call 44; refine (HIN.out _).mono ?_; rintro e w3 ⟨rfl, rfl⟩))
        refine (HFR2.out _ (HX.out _ B2.out).2).mono ?_
        rintro e w3 ⟨rfl, b3⟩
        have HBW : Hid (Below wb.heap.size wb w3) := B2.out.trans (b3.mono B2.out.size)
        clear b3
        have HBZ : Hid (w3.heap[w.heap.size + 1]? = some (.cells #[.string ⟨#[]⟩, .int .i64 0, .int .i64 0, .int .i64 0, .slice none 0 0, .slice none 0 0] 31 (0, 0)) ∧ Below w.heap.size w w3) := ⟨(HX.out w3 HBW.out).1.2, (HX.out w3 HBW.out).2⟩
        obtain ⟨z0, zf0⟩ := Rg.blk_cell HBZ.out.1 0 (x := .string ⟨#[]⟩) rfl
        obtain ⟨z1, zf1⟩ := Rg.blk_cell HBZ.out.1 1 (x := .int .i64 0) rfl
        obtain ⟨z2, zf2⟩ := Rg.blk_cell HBZ.out.1 2 (x := .int .i64 0) rfl
        obtain ⟨z3, zf3⟩ := Rg.blk_cell HBZ.out.1 3 (x := .int .i64 0) rfl
        obtain ⟨z4, zf4⟩ := Rg.blk_cell HBZ.out.1 4 (x := .slice none 0 0) rfl
        obtain ⟨z5, zf5⟩ := Rg.blk_cell HBZ.out.1 5 (x := .slice none 0 0) rfl
        have AF : ((((((w3.setCell ⟨w.heap.size + 1, 0, none⟩ (.string ⟨#[]⟩)).setCell ⟨w.heap.size + 1, 1, none⟩ (.int .i64 0)).setCell ⟨w.heap.size + 1, 2, none⟩ (.int .i64 0)).setCell ⟨w.heap.size + 1, 3, none⟩ (.int .i64 0)).setCell ⟨w.heap.size + 1, 4, none⟩ (.slice none 0 0)).setCell ⟨w.heap.size + 1, 5, none⟩ (.slice none 0 0)).heap[w.heap.size + 1]? = some (.cells #[.string ⟨#[]⟩, .int .i64 0, .int .i64 0, .int .i64 0, .slice none 0 0, .slice none 0 0] 31 (0, 0)) := (Rg.blk_set (Rg.blk_set (Rg.blk_set (Rg.blk_set (Rg.blk_set (Rg.blk_set HBZ.out.1 _ _) _ _) _ _) _ _) _ _) _ _)
        have BF : Below w.heap.size w ((((((w3.setCell ⟨w.heap.size + 1, 0, none⟩ (.string ⟨#[]⟩)).setCell ⟨w.heap.size + 1, 1, none⟩ (.int .i64 0)).setCell ⟨w.heap.size + 1, 2, none⟩ (.int .i64 0)).setCell ⟨w.heap.size + 1, 3, none⟩ (.int .i64 0)).setCell ⟨w.heap.size + 1, 4, none⟩ (.slice none 0 0)).setCell ⟨w.heap.size + 1, 5, none⟩ (.slice none 0 0)) := (Below.setCell (Below.setCell (Below.setCell (Below.setCell (Below.setCell (Below.setCell HBZ.out.2 (p := ⟨w.heap.size + 1, 0, none⟩) (Nat.le_succ _) (.string ⟨#[]⟩)) (p := ⟨w.heap.size + 1, 1, none⟩) (Nat.le_succ _) (.int .i64 0)) (p := ⟨w.heap.size + 1, 2, none⟩) (Nat.le_succ _) (.int .i64 0)) (p := ⟨w.heap.size + 1, 3, none⟩) (Nat.le_succ _) (.int .i64 0)) (p := ⟨w.heap.size + 1, 4, none⟩) (Nat.le_succ _) (.slice none 0 0)) (p := ⟨w.heap.size + 1, 5, none⟩) (Nat.le_succ _) (.slice none 0 0))
        go_wp2_with fail
        generalize ((((((w3.setCell ⟨w.heap.size + 1, 0, none⟩ (.string ⟨#[]⟩)).setCell ⟨w.heap.size + 1, 1, none⟩ (.int .i64 0)).setCell ⟨w.heap.size + 1, 2, none⟩ (.int .i64 0)).setCell ⟨w.heap.size + 1, 3, none⟩ (.int .i64 0)).setCell ⟨w.heap.size + 1, 4, none⟩ (.slice none 0 0)).setCell ⟨w.heap.size + 1, 5, none⟩ (.slice none 0 0)) = wf at AF BF ⊢
        have d0 := (Rg.blk_cell AF 0 (x := .string ⟨#[]⟩) rfl).1
        have d1 := (Rg.blk_cell AF 1 (x := .int .i64 0) rfl).1
        have d2 := (Rg.blk_cell AF 2 (x := .int .i64 0) rfl).1
        have d3 := (Rg.blk_cell AF 3 (x := .int .i64 0) rfl).1
        have d4 := (Rg.blk_cell AF 4 (x := .slice none 0 0) rfl).1
        have d5 := (Rg.blk_cell AF 5 (x := .slice none 0 0) rfl).1
        exact bodyPost_ret (v := .tuple #[.agg #[.string ⟨#[]⟩, .int .i64 0, .int .i64 0, .int .i64 0, .slice none 0 0, .slice none 0 0], .int .i64 19]) (by simp [results, Tryz.results16, go_sem, d0, d1, d2, d3, d4, d5]) rfl ⟨ret_mc HE.out.symm, BF⟩
    · rw [decide_eq_false hf] at HNO
      have HE : Hid (mfC n g ns ix = 4) := by
        show _ = _
        unfold mfC cfC
        rw [if_neg hb, if_pos hg, if_neg hf]
        split <;> rfl
      clear hg hb hm hf
      go_enter Tryz.func16, Tryz.ntmps16
      go_upto_region 1 with fail
      generalize ((w.alloc (.cells #[.string g.nm, .int .i64 g.hd, .int .i64 g.tk, .int .i64 g.ex] 24)).alloc (.cells #[.string ⟨#[]⟩, .int .i64 0, .int .i64 0, .int .i64 0, .slice none 0 0, .slice none 0 0] 31)) = wb at HX ⊢
      have X0 := HX.out wb (Below.refl _ _)
      have c0 := (Rg.blk_cell X0.1.1 0 (x := .string g.nm) rfl).1
      have c1 := (Rg.blk_cell X0.1.1 1 (x := .int .i64 g.hd) rfl).1
      have c2 := (Rg.blk_cell X0.1.1 2 (x := .int .i64 g.tk) rfl).1
      have c3 := (Rg.blk_cell X0.1.1 3 (x := .int .i64 g.ex) rfl).1
      clear X0
      go_wp2_with fail
      refine (HO.out _).mono ?_
      rintro e w2 ⟨rfl, b2⟩
      have B2 : Hid (Below wb.heap.size wb w2) := b2
      clear b2 c0 c1 c2 c3
      have HBW := B2
      go_upto_region 6 with (first | (go_at_call 39; refine (HNO.out _).mono ?_; rintro e w3 ⟨rfl, rfl⟩))
      have HBZ : Hid (w2.heap[w.heap.size + 1]? = some (.cells #[.string ⟨#[]⟩, .int .i64 0, .int .i64 0, .int .i64 0, .slice none 0 0, .slice none 0 0] 31 (0, 0)) ∧ Below w.heap.size w w2) := ⟨(HX.out w2 HBW.out).1.2, (HX.out w2 HBW.out).2⟩
      obtain ⟨z0, zf0⟩ := Rg.blk_cell HBZ.out.1 0 (x := .string ⟨#[]⟩) rfl
      obtain ⟨z1, zf1⟩ := Rg.blk_cell HBZ.out.1 1 (x := .int .i64 0) rfl
      obtain ⟨z2, zf2⟩ := Rg.blk_cell HBZ.out.1 2 (x := .int .i64 0) rfl
      obtain ⟨z3, zf3⟩ := Rg.blk_cell HBZ.out.1 3 (x := .int .i64 0) rfl
      obtain ⟨z4, zf4⟩ := Rg.blk_cell HBZ.out.1 4 (x := .slice none 0 0) rfl
      obtain ⟨z5, zf5⟩ := Rg.blk_cell HBZ.out.1 5 (x := .slice none 0 0) rfl
      have AF : ((((((w2.setCell ⟨w.heap.size + 1, 0, none⟩ (.string ⟨#[]⟩)).setCell ⟨w.heap.size + 1, 1, none⟩ (.int .i64 0)).setCell ⟨w.heap.size + 1, 2, none⟩ (.int .i64 0)).setCell ⟨w.heap.size + 1, 3, none⟩ (.int .i64 0)).setCell ⟨w.heap.size + 1, 4, none⟩ (.slice none 0 0)).setCell ⟨w.heap.size + 1, 5, none⟩ (.slice none 0 0)).heap[w.heap.size + 1]? = some (.cells #[.string ⟨#[]⟩, .int .i64 0, .int .i64 0, .int .i64 0, .slice none 0 0, .slice none 0 0] 31 (0, 0)) := (Rg.blk_set (Rg.blk_set (Rg.blk_set (Rg.blk_set (Rg.blk_set (Rg.blk_set HBZ.out.1 _ _) _ _) _ _) _ _) _ _) _ _)
      have BF : Below w.heap.size w ((((((w2.setCell ⟨w.heap.size + 1, 0, none⟩ (.string ⟨#[]⟩)).setCell ⟨w.heap.size + 1, 1, none⟩ (.int .i64 0)).setCell ⟨w.heap.size + 1, 2, none⟩ (.int .i64 0)).setCell ⟨w.heap.size + 1, 3, none⟩ (.int .i64 0)).setCell ⟨w.heap.size + 1, 4, none⟩ (.slice none 0 0)).setCell ⟨w.heap.size + 1, 5, none⟩ (.slice none 0 0)) := (Below.setCell (Below.setCell (Below.setCell (Below.setCell (Below.setCell (Below.setCell HBZ.out.2 (p := ⟨w.heap.size + 1, 0, none⟩) (Nat.le_succ _) (.string ⟨#[]⟩)) (p := ⟨w.heap.size + 1, 1, none⟩) (Nat.le_succ _) (.int .i64 0)) (p := ⟨w.heap.size + 1, 2, none⟩) (Nat.le_succ _) (.int .i64 0)) (p := ⟨w.heap.size + 1, 3, none⟩) (Nat.le_succ _) (.int .i64 0)) (p := ⟨w.heap.size + 1, 4, none⟩) (Nat.le_succ _) (.slice none 0 0)) (p := ⟨w.heap.size + 1, 5, none⟩) (Nat.le_succ _) (.slice none 0 0))
      go_wp2_with fail
      generalize ((((((w2.setCell ⟨w.heap.size + 1, 0, none⟩ (.string ⟨#[]⟩)).setCell ⟨w.heap.size + 1, 1, none⟩ (.int .i64 0)).setCell ⟨w.heap.size + 1, 2, none⟩ (.int .i64 0)).setCell ⟨w.heap.size + 1, 3, none⟩ (.int .i64 0)).setCell ⟨w.heap.size + 1, 4, none⟩ (.slice none 0 0)).setCell ⟨w.heap.size + 1, 5, none⟩ (.slice none 0 0)) = wf at AF BF ⊢
      have d0 := (Rg.blk_cell AF 0 (x := .string ⟨#[]⟩) rfl).1
      have d1 := (Rg.blk_cell AF 1 (x := .int .i64 0) rfl).1
      have d2 := (Rg.blk_cell AF 2 (x := .int .i64 0) rfl).1
      have d3 := (Rg.blk_cell AF 3 (x := .int .i64 0) rfl).1
      have d4 := (Rg.blk_cell AF 4 (x := .slice none 0 0) rfl).1
      have d5 := (Rg.blk_cell AF 5 (x := .slice none 0 0) rfl).1
      exact bodyPost_ret (v := .tuple #[.agg #[.string ⟨#[]⟩, .int .i64 0, .int .i64 0, .int .i64 0, .slice none 0 0, .slice none 0 0], .int .i64 4]) (by simp [results, Tryz.results16, go_sem, d0, d1, d2, d3, d4, d5]) rfl ⟨ret_mc HE.out.symm, BF⟩
theorem fin_own {wx : World} {B gA : Nat} (h : wx.heap[gA]? = some (.cells #[] 37 (0, 0))) (hB : B ≤ gA) : OwnK wx B (.slice (some ⟨gA, 0, none⟩) 0 0) [] := ⟨rfl, .inr ⟨gA, 0, #[], rfl, hB, h, Nat.le_refl _, by simp, by simp, by simp⟩⟩
theorem FinC.mk {w w1 wx : World} {g : Gg} {ns : List Int} {px : Value} (hs : w.heap.size + 2 ≤ w1.heap.size) (h : FinC w1 g ns px wx) : ∃ (b gA : Nat) (na : Option Addr) (nk : Nat), px = .pointer (some ⟨b, 0, none⟩) ∧ Mk w wx b g (.slice na ns.length nk) (.slice (some ⟨gA, 0, none⟩) 0 0) ns [] ∧ Below w1.heap.size w1 wx := by
  obtain ⟨x, gA, a5, k5, e, h1, h2, h3, h4, h5, h6⟩ := h
  refine ⟨x, gA, a5, k5, e, ⟨h1, ownI_mono h3 hs, fun e2 => ?_, ⟨[], fin_own h2 (Nat.le_trans hs h6), HV.nil _ _, fun e2 => ?_⟩, Nat.le_trans hs h5⟩, h4⟩
  · obtain ⟨_, _, q⟩ := ownI_kind h3 x e2
    exact kind_ne q h1 (by decide) rfl
  · have e3 : gA = x := by simpa [Value.ownBlock] using e2
    subst e3
    exact kind_ne h2 h1 (by decide) rfl
theorem kOf7 {g : Gg} {x k : Nat} (hg : grB g = true) (hx : x ≤ 6) (hk : k < 8) : kOf (k : Int) g (x : Int) = ⟨(k : Int), onesTo (nsd x) k (dig (tx g)) 32, restTo (nsd x) k (dig (tx g)) 32, pathN 3 (keysTo (nsd x) 8) k⟩ := by
  have h6 : inR (x : Int) 0 6 = true := by unfold inR; simp; omega
  have h7 : inR (k : Int) 0 7 = true := by unfold inR; simp; omega
  obtain ⟨_, s1, s2, s3, s4⟩ := sg_go (id := (x : Int)) (ix := (k : Int)) hg h6
  have hc : Sg.gC (nsd (x : Int).toNat) (k : Int) (tx g) = 0 := by rw [gC_tx hg, if_pos h7]
  obtain ⟨_, g1, g2, g3, g4⟩ := Sg.g_good hc
  unfold kOf
  rw [s1, s2, s3, s4, g1, g2, g3, g4]
  simp
theorem nat_of {x b : Int} (h : inR x 0 b = true) : x = (x.toNat : Int) ∧ (x.toNat : Int) ≤ b := by unfold inR at h; simp at h; omega
set_option maxRecDepth 100000 in
set_option maxHeartbeats 6400000 in
theorem specMakeC_ok (n : Int) (g : Gg) (v : Value) (ns : List Int) (ix : Int) (w : World) (zg : g.nm.size ≤ maxLen) (h : RowI w v ns) (hm : mfC n g ns ix = 0) :
    Calls Tryz.prog 16 #[.int .i64 n, gV g, v, .int .i64 ix] w fun e w' => ∃ vn vs, e = .returned (.tuple #[.agg #[.string g.nm, .int .i64 g.hd, .int .i64 g.tk, .int .i64 g.ex, vn, vs], .int .i64 0]) ∧ Hid (Ce w' (w.heap.size + 2) vn vs ns (ns.map (kOf ix g))) ∧ Below w.heap.size w w' := by
  have HM : Hid (mfC n g ns ix = 0) := hm
  obtain ⟨mg, mi, mc, hl3, hl1⟩ := mf_zero hm
  have HO : Hid (∀ W, Calls Tryz.prog 38 #[.agg #[.string g.nm, .int .i64 g.hd, .int .i64 g.tk, .int .i64 g.ex]] W fun e w' => e = .returned (.bool true) ∧ Below W.heap.size W w') := fun W => by
    have q := specGrantOK_any g W zg
    rw [mg] at q
    exact q
  have hfn := (cf_zero mc).1
  have HNO : Hid (∀ W, Calls Tryz.prog 39 #[.int .i64 n] W fun e w' => e = .returned (.bool true) ∧ W = w') := fun W => by
    have q := Qm.l04Nodes_any n W
    rw [decide_eq_true hfn] at q
    exact q
  have HIN : Hid (∀ W, Calls Tryz.prog 44 #[.int .i64 ix, .int .i64 0, .int .i64 7] W fun e w' => e = .returned (.bool true) ∧ W = w') := fun W => by
    have q := Hf.l01In_any ix 0 7 W
    rw [mi] at q
    exact q
  have HFM : Hid (∀ W, Below w.heap.size w W → Calls Tryz.prog 40 #[.int .i64 n, v] W fun e w' => e = .returned (.bool true) ∧ Below W.heap.size W w') := fun W hW => by
    have q := l12From_any n v ns W (h.below hW) (by omega) hfn
    rw [decide_eq_true mc] at q
    exact q
  obtain ⟨tt, HTT⟩ : ∃ tt, Hid (tx g = tt) := ⟨_, rfl⟩
  have HTX : Hid (∀ W, Calls Tryz.prog 43 #[.agg #[.string g.nm, .int .i64 g.hd, .int .i64 g.tk, .int .i64 g.ex]] W fun e w' => e = .returned (.string tt) ∧ Below W.heap.size W w') := fun W => by
    obtain ⟨_, hr⟩ := grB_ok g mg
    have q := l12Text_any g W (nmd_of (grB_parts mg).1).2 hr
    rw [HTT.out] at q
    exact q
  have HSD : Hid (∀ W x, x ∈ ns → Calls Tryz.prog 42 #[.int .i64 x] W fun e w' => e = .returned (.string (nsd x.toNat)) ∧ Below W.heap.size W w') := fun W x hx => by
    obtain ⟨e1, e2⟩ := nat_of (cf_node mc hx)
    have q := l12Seed_any x.toNat W (by omega)
    rw [← e1] at q
    exact q
  have HSG : Hid (∀ W x, x ∈ ns → Calls Tryz.prog 45 #[.string (nsd x.toNat), .int .i64 ix, .string tt] W fun e w' => ∃ p1 q1 r1 p2 q2 r2 p3 q3 r3, e = .returned (.agg #[.int .i64 (kOf ix g x).i, .slice p1 q1 r1, .slice p2 q2 r2, .slice p3 q3 r3]) ∧ Hid (SigP w' W.heap.size ⟨(kOf ix g x).i, p1, q1, r1, p2, q2, r2, p3, q3, r3⟩ (kOf ix g x)) ∧ Below W.heap.size W w') := fun W x hx => by
    obtain ⟨e1, e2⟩ := nat_of (cf_node mc hx)
    obtain ⟨e3, e4⟩ := nat_of mi
    have q := l03Sign_any (nsd x.toNat) (tx g) ix.toNat W (by have := nsd_size x.toNat; omega) (by have := tx_small mg; omega) (by omega)
    rw [← e3, HTT.out] at q
    have ek := kOf7 (x := x.toNat) (k := ix.toNat) mg (by omega) (by omega)
    rw [← e1, ← e3, HTT.out] at ek
    refine q.mono ?_
    rintro e w' ⟨va, vb, vc, rfl, hs, hb⟩
    obtain ⟨p1, q1, r1, rfl⟩ : ∃ a b c, va = .slice a b c := by obtain ⟨a, c, e, _⟩ := own_row hs.oa; exact ⟨a, _, c, e⟩
    obtain ⟨p2, q2, r2, rfl⟩ : ∃ a b c, vb = .slice a b c := by obtain ⟨a, c, e, _⟩ := own_row hs.ob; exact ⟨a, _, c, e⟩
    obtain ⟨p3, q3, r3, rfl⟩ : ∃ a b c, vc = .slice a b c := by obtain ⟨a, c, e, _⟩ := own_row hs.oc; exact ⟨a, _, c, e⟩
    rw [ek]
    exact ⟨p1, q1, r1, p2, q2, r2, p3, q3, r3, rfl, ⟨rfl, hs⟩, hb⟩
  have HX : Hid (∀ W, Below ((w.alloc (.cells #[.string g.nm, .int .i64 g.hd, .int .i64 g.tk, .int .i64 g.ex] 24)).alloc (.cells #[.string ⟨#[]⟩, .int .i64 0, .int .i64 0, .int .i64 0, .slice none 0 0, .slice none 0 0] 31)).heap.size ((w.alloc (.cells #[.string g.nm, .int .i64 g.hd, .int .i64 g.tk, .int .i64 g.ex] 24)).alloc (.cells #[.string ⟨#[]⟩, .int .i64 0, .int .i64 0, .int .i64 0, .slice none 0 0, .slice none 0 0] 31)) W → (W.heap[w.heap.size]? = some (.cells #[.string g.nm, .int .i64 g.hd, .int .i64 g.tk, .int .i64 g.ex] 24 (0, 0)) ∧ W.heap[w.heap.size + 1]? = some (.cells #[.string ⟨#[]⟩, .int .i64 0, .int .i64 0, .int .i64 0, .slice none 0 0, .slice none 0 0] 31 (0, 0))) ∧ Below w.heap.size w W) := fun W hW => by
    have e2 : ((w.alloc (.cells #[.string g.nm, .int .i64 g.hd, .int .i64 g.tk, .int .i64 g.ex] 24)).alloc (.cells #[.string ⟨#[]⟩, .int .i64 0, .int .i64 0, .int .i64 0, .slice none 0 0, .slice none 0 0] 31)).heap.size = w.heap.size + 1 + 1 := by rw [Rg.size_new, Rg.size_new]
    have h0 : ((w.alloc (.cells #[.string g.nm, .int .i64 g.hd, .int .i64 g.tk, .int .i64 g.ex] 24)).alloc (.cells #[.string ⟨#[]⟩, .int .i64 0, .int .i64 0, .int .i64 0, .slice none 0 0, .slice none 0 0] 31)).heap[w.heap.size]? = some (.cells #[.string g.nm, .int .i64 g.hd, .int .i64 g.tk, .int .i64 g.ex] 24 (0, 0)) := (Below.heap_alloc _ _ _ (by simp)).trans (heap_alloc_new w _)
    have h1 : ((w.alloc (.cells #[.string g.nm, .int .i64 g.hd, .int .i64 g.tk, .int .i64 g.ex] 24)).alloc (.cells #[.string ⟨#[]⟩, .int .i64 0, .int .i64 0, .int .i64 0, .slice none 0 0, .slice none 0 0] 31)).heap[w.heap.size + 1]? = some (.cells #[.string ⟨#[]⟩, .int .i64 0, .int .i64 0, .int .i64 0, .slice none 0 0, .slice none 0 0] 31 (0, 0)) := by
      have := heap_alloc_new (w.alloc (.cells #[.string g.nm, .int .i64 g.hd, .int .i64 g.tk, .int .i64 g.ex] 24)) (.cells #[.string ⟨#[]⟩, .int .i64 0, .int .i64 0, .int .i64 0, .slice none 0 0, .slice none 0 0] 31)
      rw [Rg.size_new] at this
      exact this
    have b0 : Below w.heap.size w ((w.alloc (.cells #[.string g.nm, .int .i64 g.hd, .int .i64 g.tk, .int .i64 g.ex] 24)).alloc (.cells #[.string ⟨#[]⟩, .int .i64 0, .int .i64 0, .int .i64 0, .slice none 0 0, .slice none 0 0] 31)) := (Rg.bel_new w _).trans ((Rg.bel_new _ _).mono (by simp))
    exact ⟨⟨(hW.block _ (by omega)).trans h0, (hW.block _ (by omega)).trans h1⟩, b0.trans (hW.mono b0.size)⟩
  obtain ⟨i0, hi0, hz0, hz1, hz2⟩ := info_parts infoK
  obtain ⟨j0, hj0, jz0, jz1, jz2⟩ := info_parts info3
  obtain ⟨a, cap, rfl, hh, _⟩ := h
  obtain ⟨bF, oF, rfl, HFR⟩ : ∃ bF oF, a = some ⟨bF, oF, none⟩ ∧ Hid (∀ W, Below w.heap.size w W → ∀ (i : Nat) x, ns[i]? = some x → W.cell? ⟨bF, oF + i, none⟩ = some (.int .i64 x)) := by
    rcases hh with hh | ⟨b, off, e, _, hb, hc⟩
    · rw [hh] at hl1; simp at hl1
    · refine ⟨b, off, e, fun W hW i x hx => ?_⟩
      have hi := (List.getElem?_eq_some_iff.1 hx).1
      rw [hW.cell (p := ⟨b, off + i, none⟩) hb, hc i hi]
      have : nth ns i = x := by simp [nth, hx]
      rw [this]
  clear hm zg hh hl1 mg mi mc hfn
  have hb' : ¬ (4096 : Int) < (ns.length : Int) := by omega
  unfold gV
  go_enter Tryz.func16, Tryz.ntmps16
  go_upto_region 1 with fail
  generalize ((w.alloc (.cells #[.string g.nm, .int .i64 g.hd, .int .i64 g.tk, .int .i64 g.ex] 24)).alloc (.cells #[.string ⟨#[]⟩, .int .i64 0, .int .i64 0, .int .i64 0, .slice none 0 0, .slice none 0 0] 31)) = wb at HX ⊢
  have X0 := HX.out wb (Below.refl _ _)
  have c0 := (Rg.blk_cell X0.1.1 0 (x := .string g.nm) rfl).1
  have c1 := (Rg.blk_cell X0.1.1 1 (x := .int .i64 g.hd) rfl).1
  have c2 := (Rg.blk_cell X0.1.1 2 (x := .int .i64 g.tk) rfl).1
  have c3 := (Rg.blk_cell X0.1.1 3 (x := .int .i64 g.ex) rfl).1
  clear X0
  go_wp2_with fail
  refine (HO.out _).mono ?_
  rintro e w2 ⟨rfl, b2⟩
  have B2 : Hid (Below wb.heap.size wb w2) := b2
  clear b2 c0 c1 c2 c3
  go_wp2_with (first | (go_at_call 39; refine (HNO.out _).mono ?_; rintro e w3 ⟨rfl, rfl⟩) | (go_at_call 44; refine (HIN.out _).mono ?_; rintro e w3 ⟨rfl, rfl⟩))
  refine (HFM.out _ (HX.out _ B2.out).2).mono ?_
  rintro e w3 ⟨rfl, b3⟩
  have B3 : Hid (Below wb.heap.size wb w3) := B2.out.trans (b3.mono B2.out.size)
  clear b3 B2 HFM HNO HIN HO
  go_upto_region 9 with fail
  obtain ⟨w2, rfl⟩ : ∃ w2, w2 = w3 := ⟨_, rfl⟩
  have X2 := HX.out w2 B3.out
  have HS2 : Hid (w.heap.size + 2 ≤ w2.heap.size) := (Array.getElem?_eq_some_iff.1 X2.1.2).1
  have HB2 : Hid (Below w.heap.size w w2) := X2.2
  have hbl : w.heap.size < w2.heap.size := by have := HS2.out; omega
  have c0 := (Rg.blk_cell X2.1.1 0 (x := .string g.nm) rfl).1
  have c1 := (Rg.blk_cell X2.1.1 1 (x := .int .i64 g.hd) rfl).1
  have c2 := (Rg.blk_cell X2.1.1 2 (x := .int .i64 g.tk) rfl).1
  have c3 := (Rg.blk_cell X2.1.1 3 (x := .int .i64 g.ex) rfl).1
  have hxs : ∀ W, Below w2.heap.size w2 W → ∀ (i : Nat) x, ns[i]? = some x → W.cell? ⟨bF, oF + i, none⟩ = some (.int .i64 x) := fun W hW => HFR.out W (HB2.out.trans (hW.mono HB2.out.size))
  have HK : Hid (∀ W, Below w2.heap.size w2 W → (W.cell? ⟨w.heap.size, 0, none⟩ = some (.string g.nm) ∧ W.cell? ⟨w.heap.size, 1, none⟩ = some (.int .i64 g.hd) ∧ W.cell? ⟨w.heap.size, 2, none⟩ = some (.int .i64 g.tk) ∧ W.cell? ⟨w.heap.size, 3, none⟩ = some (.int .i64 g.ex))) := fun W hW => by
    have q := (HX.out W (B3.out.trans (hW.mono B3.out.size))).1.1
    exact ⟨(Rg.blk_cell q 0 rfl).1, (Rg.blk_cell q 1 rfl).1, (Rg.blk_cell q 2 rfl).1, (Rg.blk_cell q 3 rfl).1⟩
  have hln : ns.length ≤ 1000 := by omega
  clear X2
  go_cut [10] (fun p10 wx => FinC w2 g ns p10 wx)
  case first =>
    go_region_held_law (fun W => (W.cell? ⟨w.heap.size, 0, none⟩ = some (.string g.nm) ∧ W.cell? ⟨w.heap.size, 1, none⟩ = some (.int .i64 g.hd) ∧ W.cell? ⟨w.heap.size, 2, none⟩ = some (.int .i64 g.tk) ∧ W.cell? ⟨w.heap.size, 3, none⟩ = some (.int .i64 g.ex))) ((refine HK.out _ ?_; repeat (first | with_reducible exact B5.out | with_reducible exact Below.refl _ _ | with_reducible refine Below.drew ?_ | with_reducible refine belA ?_ _ | (with_reducible refine belS ?_ _ _ _ (by first | omega | (have := B5.out.size; omega))))))
      ((refine step_appI (by rfl) _ _ 26 (by rfl) Tryz.underlying26 hj0 jz0 jz1 jz2 w2 _ ns bF oF cap _ (by rfl) (by rfl) (by first | exact nest1 _ _ | exact (nest2 _ _ _).1 | exact (nest2 _ _ _).2 | exact (nest3 _ _ _ _).1 | exact (nest3 _ _ _ _).2.1 | exact (nest3 _ _ _ _).2.2) (by omega) (by repeat (first | with_reducible exact Below.refl _ _ | with_reducible refine Below.drew ?_ | with_reducible refine belA ?_ _)) hxs hln ?_; intro v5 w5 o5 b5 q5; obtain ⟨a5, k5, rfl⟩ := ownI_slice o5; (try (have hX := q5 (w2.heap.size) (.cells #[.string ⟨#[]⟩, .int .i64 0, .int .i64 0, .int .i64 0, .slice none 0 0, .slice none 0 0] 31) (by first | exact nest1 _ _ | exact (nest2 _ _ _).1 | exact (nest2 _ _ _).2 | exact (nest3 _ _ _ _).1 | exact (nest3 _ _ _ _).2.1 | exact (nest3 _ _ _ _).2.2) (by omega); obtain ⟨cX0, fX0⟩ := Rg.blk_cell hX 0 (x := .string ⟨#[]⟩) rfl; obtain ⟨cX1, fX1⟩ := Rg.blk_cell hX 1 (x := .int .i64 0) rfl; obtain ⟨cX2, fX2⟩ := Rg.blk_cell hX 2 (x := .int .i64 0) rfl; obtain ⟨cX3, fX3⟩ := Rg.blk_cell hX 3 (x := .int .i64 0) rfl; obtain ⟨cX4, fX4⟩ := Rg.blk_cell hX 4 (x := .slice none 0 0) rfl; obtain ⟨cX5, fX5⟩ := Rg.blk_cell hX 5 (x := .slice none 0 0) rfl; have hXo := fun o => (Below.heap_alloc w5 o _ (Array.getElem?_eq_some_iff.1 hX).1).trans hX; have dX0 := fun o => Rg.blk_cell (hXo o) 0 (x := .string ⟨#[]⟩) rfl; have dX1 := fun o => Rg.blk_cell (hXo o) 1 (x := .int .i64 0) rfl; have dX2 := fun o => Rg.blk_cell (hXo o) 2 (x := .int .i64 0) rfl; have dX3 := fun o => Rg.blk_cell (hXo o) 3 (x := .int .i64 0) rfl; have dX4 := fun o => Rg.blk_cell (hXo o) 4 (x := .slice none 0 0) rfl; have dX5 := fun o => Rg.blk_cell (hXo o) 5 (x := .slice none 0 0) rfl)); (try (have hX := q5 (w2.heap.size + 1) (.cells #[.string ⟨#[]⟩, .int .i64 0, .int .i64 0, .int .i64 0, .slice none 0 0, .slice none 0 0] 31) (by first | exact nest1 _ _ | exact (nest2 _ _ _).1 | exact (nest2 _ _ _).2 | exact (nest3 _ _ _ _).1 | exact (nest3 _ _ _ _).2.1 | exact (nest3 _ _ _ _).2.2) (by omega); obtain ⟨cX0, fX0⟩ := Rg.blk_cell hX 0 (x := .string ⟨#[]⟩) rfl; obtain ⟨cX1, fX1⟩ := Rg.blk_cell hX 1 (x := .int .i64 0) rfl; obtain ⟨cX2, fX2⟩ := Rg.blk_cell hX 2 (x := .int .i64 0) rfl; obtain ⟨cX3, fX3⟩ := Rg.blk_cell hX 3 (x := .int .i64 0) rfl; obtain ⟨cX4, fX4⟩ := Rg.blk_cell hX 4 (x := .slice none 0 0) rfl; obtain ⟨cX5, fX5⟩ := Rg.blk_cell hX 5 (x := .slice none 0 0) rfl; have hXo := fun o => (Below.heap_alloc w5 o _ (Array.getElem?_eq_some_iff.1 hX).1).trans hX; have dX0 := fun o => Rg.blk_cell (hXo o) 0 (x := .string ⟨#[]⟩) rfl; have dX1 := fun o => Rg.blk_cell (hXo o) 1 (x := .int .i64 0) rfl; have dX2 := fun o => Rg.blk_cell (hXo o) 2 (x := .int .i64 0) rfl; have dX3 := fun o => Rg.blk_cell (hXo o) 3 (x := .int .i64 0) rfl; have dX4 := fun o => Rg.blk_cell (hXo o) 4 (x := .slice none 0 0) rfl; have dX5 := fun o => Rg.blk_cell (hXo o) 5 (x := .slice none 0 0) rfl)); (try (have hX := q5 (w2.heap.size + 1 + 1) (.cells #[.string ⟨#[]⟩, .int .i64 0, .int .i64 0, .int .i64 0, .slice none 0 0, .slice none 0 0] 31) (by first | exact nest1 _ _ | exact (nest2 _ _ _).1 | exact (nest2 _ _ _).2 | exact (nest3 _ _ _ _).1 | exact (nest3 _ _ _ _).2.1 | exact (nest3 _ _ _ _).2.2) (by omega); obtain ⟨cX0, fX0⟩ := Rg.blk_cell hX 0 (x := .string ⟨#[]⟩) rfl; obtain ⟨cX1, fX1⟩ := Rg.blk_cell hX 1 (x := .int .i64 0) rfl; obtain ⟨cX2, fX2⟩ := Rg.blk_cell hX 2 (x := .int .i64 0) rfl; obtain ⟨cX3, fX3⟩ := Rg.blk_cell hX 3 (x := .int .i64 0) rfl; obtain ⟨cX4, fX4⟩ := Rg.blk_cell hX 4 (x := .slice none 0 0) rfl; obtain ⟨cX5, fX5⟩ := Rg.blk_cell hX 5 (x := .slice none 0 0) rfl; have hXo := fun o => (Below.heap_alloc w5 o _ (Array.getElem?_eq_some_iff.1 hX).1).trans hX; have dX0 := fun o => Rg.blk_cell (hXo o) 0 (x := .string ⟨#[]⟩) rfl; have dX1 := fun o => Rg.blk_cell (hXo o) 1 (x := .int .i64 0) rfl; have dX2 := fun o => Rg.blk_cell (hXo o) 2 (x := .int .i64 0) rfl; have dX3 := fun o => Rg.blk_cell (hXo o) 3 (x := .int .i64 0) rfl; have dX4 := fun o => Rg.blk_cell (hXo o) 4 (x := .slice none 0 0) rfl; have dX5 := fun o => Rg.blk_cell (hXo o) 5 (x := .slice none 0 0) rfl)); (try (have hA := q5 (w2.heap.size) (.cells #[] 37) (by first | exact nest1 _ _ | exact (nest2 _ _ _).1 | exact (nest2 _ _ _).2 | exact (nest3 _ _ _ _).1 | exact (nest3 _ _ _ _).2.1 | exact (nest3 _ _ _ _).2.2) (by omega))); (try (have hA := q5 (w2.heap.size + 1) (.cells #[] 37) (by first | exact nest1 _ _ | exact (nest2 _ _ _).1 | exact (nest2 _ _ _).2 | exact (nest3 _ _ _ _).1 | exact (nest3 _ _ _ _).2.1 | exact (nest3 _ _ _ _).2.2) (by omega))); (try (have hA := q5 (w2.heap.size + 1 + 1) (.cells #[] 37) (by first | exact nest1 _ _ | exact (nest2 _ _ _).1 | exact (nest2 _ _ _).2 | exact (nest3 _ _ _ _).1 | exact (nest3 _ _ _ _).2.1 | exact (nest3 _ _ _ _).2.2) (by omega))); have B5 : Hid (Below w2.heap.size w2 w5) := b5; clear q5; try go_simp))
    all_goals go_wp2_with fail
    all_goals go_meet
    all_goals first | with_reducible exact fin1 hA o5 B5.out (by omega) | with_reducible exact fin2 hX hA o5 B5.out (by omega) (by omega) | with_reducible exact fin3 o5 B5.out | with_reducible exact fin4 o5 B5.out | with_reducible exact fin5 hX o5 B5.out (by omega)
  case rest =>
    obtain ⟨b, gA, na, nk, rfl, hmk0, hbl0⟩ := hcut.mk HS2.out
    have HB5 : Hid (Mk w wc b g (.slice na ns.length nk) (.slice (some ⟨gA, 0, none⟩) 0 0) ns [] ∧ Below w2.heap.size w2 wc) := ⟨hmk0, hbl0⟩
    have HC : Hid (∀ W, Below (w.heap.size + 2) w2 W → W.heap[w.heap.size]? = some (.cells #[.string g.nm, .int .i64 g.hd, .int .i64 g.tk, .int .i64 g.ex] 24 (0, 0)) ∧ W.heap[w.heap.size + 1]? = some (.cells #[.string ⟨#[]⟩, .int .i64 0, .int .i64 0, .int .i64 0, .slice none 0 0, .slice none 0 0] 31 (0, 0)) ∧ Below w.heap.size w W) := fun W hW => by
      have q := HX.out w2 B3.out
      exact ⟨(hW.block _ (by omega)).trans q.1.1, (hW.block _ (by omega)).trans q.1.2, q.2.trans (hW.mono (by omega))⟩
    clear c0 c1 c2 c3 HX B3 HK hxs hbl hmk0 hbl0 hcut
    go_wp2_with fail
    go_loopw [11] (fun i wr => ∃ j : Nat, j ≤ ns.length ∧ i = .int .i64 j ∧ Hid (∃ vs, Mk w wr b g (.slice na ns.length nk) vs ns ((ns.take j).map (kOf ix g)) ∧ Below (w.heap.size + 2) w2 wr)) (fun i _ => ns.length - (intOf i).toNat)
    case atStart => exact ⟨0, by omega, rfl, ⟨_, HB5.out.1, HB5.out.2.mono HS2.out⟩⟩
    case round =>
      clear HB5
      obtain ⟨j, hj, rfl, HJ⟩ := hrel
      obtain ⟨vs, hmk, hbl⟩ := HJ.out
      obtain ⟨ps, hok, hhv, hsb⟩ := hmk.sg
      have hpl : ps.length = j := by rw [hhv.len, List.length_map, List.length_take]; omega
      obtain ⟨sa, sc, rfl⟩ : ∃ a c, vs = .slice a j c := by
        have q := hok.slice
        rw [hpl] at q
        exact q
      have HMK : Hid (Mk w wr b g (.slice na ns.length nk) (.slice sa j sc) ns ((ns.take j).map (kOf ix g)) ∧ Below (w.heap.size + 2) w2 wr) := ⟨hmk, hbl⟩
      have HPS : Hid (OwnK wr (w.heap.size + 2) (.slice sa j sc) ps ∧ HV (b + 1) wr ps ((ns.take j).map (kOf ix g)) ∧ (Value.slice sa j sc).ownBlock ≠ some b ∧ ps.length = j) := ⟨hok, hhv, hsb, hpl⟩
      clear HJ hmk hbl hok hhv hsb hpl
      have hwr := HC.out wr HMK.out.2
      by_cases hlt : j < ns.length
      · obtain ⟨x, hx⟩ := Rg.get_at hlt
        have hltI : (j : Int) < (ns.length : Int) := by omega
        have HXX : Hid (ns[j]? = some x) := hx
        have HFT : Hid (∀ W, Below wr.heap.size wr W → (W.cell? ⟨bF, oF + j, none⟩ = some (.int .i64 x) ∧ W.cell? ⟨b, 5, none⟩ = some (.slice sa j sc)) ∧ (W.cell? ⟨w.heap.size, 0, none⟩ = some (.string g.nm) ∧ W.cell? ⟨w.heap.size, 1, none⟩ = some (.int .i64 g.hd) ∧ W.cell? ⟨w.heap.size, 2, none⟩ = some (.int .i64 g.tk) ∧ W.cell? ⟨w.heap.size, 3, none⟩ = some (.int .i64 g.ex))) := fun W hW => by
          have q1 := (hW.block _ (Array.getElem?_eq_some_iff.1 hwr.1).1).trans hwr.1
          have q2 := (HMK.out.1.below hW).bx
          exact ⟨⟨HFR.out W (hwr.2.2.trans (hW.mono hwr.2.2.size)) j x hx, (Rg.blk_cell q2 5 rfl).1⟩, (Rg.blk_cell q1 0 rfl).1, (Rg.blk_cell q1 1 rfl).1, (Rg.blk_cell q1 2 rfl).1, (Rg.blk_cell q1 3 rfl).1⟩
        have HS1 : Hid (∀ W, Calls Tryz.prog 42 #[.int .i64 x] W fun e w' => e = .returned (.string (nsd x.toNat)) ∧ Below W.heap.size W w') := fun W => HSD.out W x (List.mem_of_getElem? hx)
        have HN1 : Hid (∀ W, Calls Tryz.prog 45 #[.string (nsd x.toNat), .int .i64 ix, .string tt] W fun e w' => ∃ p1 q1 r1 p2 q2 r2 p3 q3 r3, e = .returned (.agg #[.int .i64 (kOf ix g x).i, .slice p1 q1 r1, .slice p2 q2 r2, .slice p3 q3 r3]) ∧ Hid (SigP w' W.heap.size ⟨(kOf ix g x).i, p1, q1, r1, p2, q2, r2, p3, q3, r3⟩ (kOf ix g x)) ∧ Below W.heap.size W w') := fun W => HSG.out W x (List.mem_of_getElem? hx)
        generalize (kOf ix g x).i = ki at HN1
        generalize nsd x.toNat = sd at HS1 HN1
        have HOK : Hid (∀ W, Below wr.heap.size wr W → OwnK W (w.heap.size + 2) (.slice sa j sc) ps ∧ w.heap.size + 2 ≤ W.heap.size ∧ W.heap[b]? = some (.cells #[.string g.nm, .int .i64 g.hd, .int .i64 g.tk, .int .i64 g.ex, .slice na ns.length nk, .slice sa j sc] 31 (0, 0)) ∧ b < W.heap.size) := fun W hW => ⟨HPS.out.1.below hW, by have := HMK.out.1.bl; have := HMK.out.1.lt; have := hW.size; omega, (HMK.out.1.below hW).bx, (HMK.out.1.below hW).lt⟩
        have HPL : Hid (ps.length ≤ 3000000 ∧ ps.length = j ∧ (Value.slice sa j sc).ownBlock ≠ some b) := ⟨by have := HPS.out.2.2.2; omega, HPS.out.2.2.2, HPS.out.2.2.1⟩
        obtain ⟨⟨f0, f5⟩, c0, c1, c2, c3⟩ := HFT.out wr (Below.refl _ _)
        have HSx : Hid (∀ W, Below (w.heap.size + 2) w2 W → (W.cell? ⟨bF, oF + j, none⟩ = some (.int .i64 x) ∧ W.cell? ⟨w.heap.size, 0, none⟩ = some (.string g.nm) ∧ W.cell? ⟨w.heap.size, 1, none⟩ = some (.int .i64 g.hd) ∧ W.cell? ⟨w.heap.size, 2, none⟩ = some (.int .i64 g.tk) ∧ W.cell? ⟨w.heap.size, 3, none⟩ = some (.int .i64 g.ex))) := fun W hW => by
          have q := HC.out W hW
          exact ⟨HFR.out W q.2.2 j x HXX.out, (Rg.blk_cell q.1 0 rfl).1, (Rg.blk_cell q.1 1 rfl).1, (Rg.blk_cell q.1 2 rfl).1, (Rg.blk_cell q.1 3 rfl).1⟩
        have hwB : w.heap.size + 2 ≤ wr.heap.size := by have := HMK.out.1.lt; have := HMK.out.1.bl; omega
        have HSr : Hid (∀ W, Below wr.heap.size wr W → (W.cell? ⟨bF, oF + j, none⟩ = some (.int .i64 x) ∧ W.cell? ⟨w.heap.size, 0, none⟩ = some (.string g.nm) ∧ W.cell? ⟨w.heap.size, 1, none⟩ = some (.int .i64 g.hd) ∧ W.cell? ⟨w.heap.size, 2, none⟩ = some (.int .i64 g.tk) ∧ W.cell? ⟨w.heap.size, 3, none⟩ = some (.int .i64 g.ex))) := fun W hW => HSx.out W (HMK.out.2.trans (hW.mono hwB))
        have HEND : Hid (∀ (p1 : Option Addr) (q1 r1 : Nat) (p2 : Option Addr) (q2 r2 : Nat) (p3 : Option Addr) (q3 r3 : Nat) (wn w9 : World) (a9 : Option Addr) (k9 : Nat), Below wr.heap.size wr wn → SigP wn wr.heap.size ⟨ki, p1, q1, r1, p2, q2, r2, p3, q3, r3⟩ (kOf ix g x) → OwnK w9 (w.heap.size + 2) (.slice a9 (j + 1) k9) (ps ++ [⟨ki, p1, q1, r1, p2, q2, r2, p3, q3, r3⟩]) → (∀ k, k < (wn.alloc (.cells #[.int .i64 ki, .slice p1 q1 r1, .slice p2 q2 r2, .slice p3 q3 r3] 37)).heap.size → (Value.slice sa j sc).ownBlock ≠ some k → w9.heap[k]? = (wn.alloc (.cells #[.int .i64 ki, .slice p1 q1 r1, .slice p2 q2 r2, .slice p3 q3 r3] 37)).heap[k]?) → Below (w.heap.size + 2) (wn.alloc (.cells #[.int .i64 ki, .slice p1 q1 r1, .slice p2 q2 r2, .slice p3 q3 r3] 37)) w9 → w9.heap[b]? = some (.cells #[.string g.nm, .int .i64 g.hd, .int .i64 g.tk, .int .i64 g.ex, .slice na ns.length nk, .slice sa j sc] 31 (0, 0)) → (∃ vs, Mk w (w9.setCell ⟨b, 5, none⟩ (.slice a9 (j + 1) k9)) b g (.slice na ns.length nk) vs ns ((ns.take (j + 1)).map (kOf ix g)) ∧ Below (w.heap.size + 2) w2 (w9.setCell ⟨b, 5, none⟩ (.slice a9 (j + 1) k9))) ∧ Below (w.heap.size + 2) w2 w9) := fun p1 q1 r1 p2 q2 r2 p3 q3 r3 wn w9 a9 k9 gn hsg o9 f9 b9 hb9 => by
          have gnn : Below wr.heap.size wr (wn.alloc (.cells #[.int .i64 ki, .slice p1 q1 r1, .slice p2 q2 r2, .slice p3 q3 r3] 37)) := gn.alloc gn.size _
          have hne9 : (Value.slice a9 (j + 1) k9).ownBlock ≠ some b := fun e => by
            obtain ⟨_, _, e1⟩ := ownK_kind o9 b e
            exact kind_ne e1 hb9 (by decide) rfl
          have hfin := HMK.out.1.add (ps := ps) (k := kOf ix g x) HPS.out.1 HPS.out.2.1 HPS.out.2.2.1 gnn (hsg.below (Rg.bel_new _ _)) f9 o9 hne9
          rw [← take_more HXX.out] at hfin
          have hbB : w.heap.size + 2 ≤ b := HMK.out.1.bl
          have hg9 := (HMK.out.2.trans (gnn.mono hwB)).trans b9
          exact ⟨⟨_, hfin, hg9.setCell (p := ⟨b, 5, none⟩) hbB _⟩, hg9⟩
        clear hx hwr HSD HSG HMK HPS HXX HM HTT HFR HC HS2 HB2 hj0 jz0 jz1 jz2 hb' hln hwB c0 c1 c2 c3 f0
        go_upto_region 13 with fail
        refine wp_region_noPanic ?_
        refine wp_region_held_drew (S := (fun W => (W.cell? ⟨bF, oF + j, none⟩ = some (.int .i64 x) ∧ W.cell? ⟨w.heap.size, 0, none⟩ = some (.string g.nm) ∧ W.cell? ⟨w.heap.size, 1, none⟩ = some (.int .i64 g.hd) ∧ W.cell? ⟨w.heap.size, 2, none⟩ = some (.int .i64 g.tk) ∧ W.cell? ⟨w.heap.size, 3, none⟩ = some (.int .i64 g.ex)))) (by kernel_rfl) (HSr.out _ (Below.refl wr.heap.size wr).drew) (fun hHeld => ?_)
        refine wpAnyH_take (i := 0) (oi := { dst := some 46, op := Go.Op.fieldAddr 31 (Go.Operand.tmp 10) 2, type := 0, pos := "l12_grants.go:95", after := #[], guard := none }) (v := ?v1) rfl (by kernel_rfl) (by kernel_rfl) (by kernel_rfl) (fun _ _ _ h => h) (Or.inl ⟨by rfl, ?h1⟩) hHeld ?r1
        case h1 => (intro wz hz; (try dsimp only at hz); obtain ⟨y0, y1, y2, y3, y4⟩ := hz; go_simp; try (with_reducible rfl))
        simp only [Act.put, List.setIfInBounds_toArray, List.set_cons_zero, List.set_cons_succ]
        refine wpAnyH_take (i := 2) (oi := { dst := some 48, op := Go.Op.move (Go.Operand.tmp 2), type := 26, pos := "l12_grants.go:95", after := #[], guard := none }) (v := ?v2) rfl (by kernel_rfl) (by kernel_rfl) (by kernel_rfl) (fun _ _ _ h => h) (Or.inl ⟨by rfl, ?h2⟩) hHeld ?r2
        case h2 => (intro wz hz; (try dsimp only at hz); obtain ⟨y0, y1, y2, y3, y4⟩ := hz; go_simp; try (with_reducible rfl))
        simp only [Act.put, List.setIfInBounds_toArray, List.set_cons_zero, List.set_cons_succ]
        refine wpAnyH_take (i := 3) (oi := { dst := some 49, op := Go.Op.move (Go.Operand.tmp 11), type := 3, pos := "l12_grants.go:95", after := #[], guard := none }) (v := ?v3) rfl (by kernel_rfl) (by kernel_rfl) (by kernel_rfl) (fun _ _ _ h => h) (Or.inl ⟨by rfl, ?h3⟩) hHeld ?r3
        case h3 => (intro wz hz; (try dsimp only at hz); obtain ⟨y0, y1, y2, y3, y4⟩ := hz; go_simp; try (with_reducible rfl))
        simp only [Act.put, List.setIfInBounds_toArray, List.set_cons_zero, List.set_cons_succ]
        refine wpAnyH_take (i := 4) (oi := { dst := some 50, op := Go.Op.indexAddr 26 (Go.Operand.tmp 48) (Go.Operand.tmp 49), type := 0, pos := "l12_grants.go:95", after := #[{ on := 2, ground := Go.Ground.data }, { on := 3, ground := Go.Ground.data }], guard := none }) (v := ?v4) rfl (by kernel_rfl) (by kernel_rfl) (by kernel_rfl) (fun _ _ _ h => h) (Or.inl ⟨by rfl, ?h4⟩) hHeld ?r4
        case h4 => (intro wz hz; (try dsimp only at hz); obtain ⟨y0, y1, y2, y3, y4⟩ := hz; go_simp; try (with_reducible rfl))
        simp only [Act.put, List.setIfInBounds_toArray, List.set_cons_zero, List.set_cons_succ]
        refine wpAnyH_take (i := 5) (oi := { dst := some 51, op := Go.Op.load 3 (Go.Operand.tmp 50), type := 3, pos := "l12_grants.go:95", after := #[{ on := 4, ground := Go.Ground.data }], guard := none }) (v := ?v5) rfl (by kernel_rfl) (by kernel_rfl) (by kernel_rfl) (fun _ _ _ h => h) (Or.inl ⟨by rfl, ?h5⟩) hHeld ?r5
        case h5 => (intro wz hz; (try dsimp only at hz); obtain ⟨y0, y1, y2, y3, y4⟩ := hz; go_simp; try (with_reducible rfl))
        simp only [Act.put, List.setIfInBounds_toArray, List.set_cons_zero, List.set_cons_succ]
        refine wpAnyH_take (i := 7) (oi := { dst := some 53, op := Go.Op.move (Go.Operand.tmp 3), type := 3, pos := "l12_grants.go:95", after := #[], guard := none }) (v := ?v6) rfl (by kernel_rfl) (by kernel_rfl) (by kernel_rfl) (fun _ _ _ h => h) (Or.inl ⟨by rfl, ?h6⟩) hHeld ?r6
        case h6 => (intro wz hz; (try dsimp only at hz); obtain ⟨y0, y1, y2, y3, y4⟩ := hz; go_simp; try (with_reducible rfl))
        simp only [Act.put, List.setIfInBounds_toArray, List.set_cons_zero, List.set_cons_succ]
        refine wpAnyH_take (i := 8) (oi := { dst := some 54, op := Go.Op.load 24 (Go.Operand.tmp 5), type := 24, pos := "l12_grants.go:95", after := #[], guard := none }) (v := ?v7) rfl (by kernel_rfl) (by kernel_rfl) (by kernel_rfl) (fun _ _ _ h => h) (Or.inl ⟨by rfl, ?h7⟩) hHeld ?r7
        case h7 => (intro wz hz; (try dsimp only at hz); obtain ⟨y0, y1, y2, y3, y4⟩ := hz; go_simp; try (with_reducible rfl))
        simp only [Act.put, List.setIfInBounds_toArray, List.set_cons_zero, List.set_cons_succ]
        refine wpAnyH_ready (rs := [1, 6]) (by kernel_rfl) (by simp) ?_
        refine (AllReadyH.cons (o := { dst := some 47, op := Go.Op.load 29 (Go.Operand.tmp 46), type := 29, pos := "l12_grants.go:95", after := #[{ on := 0, ground := Go.Ground.data }], guard := none }) rfl (fun K hK => ?_) (AllReadyH.cons (o := { dst := some 52, op := Go.Op.call { callee := Go.Callee.value (Go.Operand.func 42), args := #[Go.Operand.tmp 51], argTypes := #[3] }, type := 9, pos := "l12_grants.go:95", after := #[{ on := 5, ground := Go.Ground.data }], guard := none }) rfl (fun K hK => ?_) AllReadyH.nil))
        · go_simp
          refine hK.out _ _ ?_ (fun hHeld => ?_)
          · exact hHeld
          clear hK K
          (try simp only [Act.put, List.setIfInBounds_toArray, List.set_cons_zero, List.set_cons_succ])
          refine wpAnyH_ready (rs := [6]) (by kernel_rfl) (by simp) ?_
          refine (AllReadyH.cons (o := { dst := some 52, op := Go.Op.call { callee := Go.Callee.value (Go.Operand.func 42), args := #[Go.Operand.tmp 51], argTypes := #[3] }, type := 9, pos := "l12_grants.go:95", after := #[{ on := 5, ground := Go.Ground.data }], guard := none }) rfl (fun K hK => ?_) AllReadyH.nil)
          go_simp
          go_at_call 42
          refine (HS1.out _).mono ?_
          rintro e ws ⟨rfl, bs⟩
          have gs : Below wr.heap.size wr ws := (Below.refl wr.heap.size wr).drew.trans (bs.mono (Below.refl wr.heap.size wr).drew.size)
          have s5 := (HFT.out ws gs).1.2
          clear bs
          try go_simp
          refine hK.out _ _ ?_ (fun hHeld => ?_)
          · exact HSr.out _ gs
          clear hK K
          (try simp only [Act.put, List.setIfInBounds_toArray, List.set_cons_zero, List.set_cons_succ])
          refine wpAnyH_ready (rs := [9]) (by kernel_rfl) (by simp) ?_
          refine (AllReadyH.cons (o := { dst := some 55, op := Go.Op.call { callee := Go.Callee.value (Go.Operand.func 43), args := #[Go.Operand.tmp 54], argTypes := #[24] }, type := 9, pos := "l12_grants.go:95", after := #[{ on := 8, ground := Go.Ground.data }, { on := 6, ground := Go.Ground.chain }], guard := none }) rfl (fun K hK => ?_) AllReadyH.nil)
          go_simp
          go_at_call 43
          refine (HTX.out _).mono ?_
          rintro e wt ⟨rfl, bt⟩
          have gt : Below wr.heap.size wr wt := gs.trans (bt.mono gs.size)
          have t5 := (HFT.out wt gt).1.2
          clear bt
          try go_simp
          refine hK.out _ _ ?_ (fun hHeld => ?_)
          · exact HSr.out _ gt
          clear hK K
          (try simp only [Act.put, List.setIfInBounds_toArray, List.set_cons_zero, List.set_cons_succ])
          refine wpAnyH_ready (rs := [10]) (by kernel_rfl) (by simp) ?_
          refine (AllReadyH.cons (o := { dst := some 56, op := Go.Op.call { callee := Go.Callee.value (Go.Operand.func 45), args := #[Go.Operand.tmp 52, Go.Operand.tmp 53, Go.Operand.tmp 55], argTypes := #[9, 3, 9] }, type := 37, pos := "l12_grants.go:95", after := #[{ on := 6, ground := Go.Ground.data }, { on := 7, ground := Go.Ground.data }, { on := 9, ground := Go.Ground.data }, { on := 9, ground := Go.Ground.chain }], guard := none }) rfl (fun K hK => ?_) AllReadyH.nil)
          go_simp
          go_at_call 45
          refine (HN1.out _).mono ?_
          rintro e wn ⟨p1, q1, r1, p2, q2, r2, p3, q3, r3, rfl, hsn, bn⟩
          have hsg := hsn.out.mono gt.size
          have gn : Below wr.heap.size wr wn := gt.trans (bn.mono gt.size)
          have n5 := (HFT.out wn gn).1.2
          have na5 := fun o => (HFT.out _ (gn.alloc gn.size o)).1.2
          clear bn hsn
          try go_simp
          refine hK.out _ _ ?_ (fun hHeld => ?_)
          · exact HSr.out _ gn
          clear hK K
          (try simp only [Act.put, List.setIfInBounds_toArray, List.set_cons_zero, List.set_cons_succ])
          refine wpAnyH_ready (rs := [11]) (by kernel_rfl) (by simp) ?_
          refine (AllReadyH.cons (o := { dst := some 57, op := Go.Op.buildSlice 29 1 #[(0, Go.Operand.tmp 56)], type := 29, pos := "l12_grants.go:95", after := #[{ on := 10, ground := Go.Ground.data }], guard := none }) rfl (fun K hK => ?_) AllReadyH.nil)
          go_simp
          refine hK.out _ _ ?_ (fun hHeld => ?_)
          · exact HSr.out _ (gn.alloc gn.size _)
          clear hK K
          (try simp only [Act.put, List.setIfInBounds_toArray, List.set_cons_zero, List.set_cons_succ])
          refine wpAnyH_ready (rs := [12]) (by kernel_rfl) (by simp) ?_
          refine (AllReadyH.cons (o := { dst := some 58, op := Go.Op.call { callee := Go.Callee.builtin Go.Builtin.append, args := #[Go.Operand.tmp 47, Go.Operand.tmp 57], argTypes := #[29, 29] }, type := 29, pos := "l12_grants.go:95", after := #[{ on := 1, ground := Go.Ground.data }, { on := 11, ground := Go.Ground.data }, { on := 10, ground := Go.Ground.chain }], guard := none }) rfl (fun K hK => ?_) AllReadyH.nil)
          refine step_key (by rfl) _ _ 29 (by rfl) i0 Tryz.underlying29 hi0 hz0 hz1 hz2 (w.heap.size + 2) _ _ _ 37 (0, 0) ps ⟨ki, p1, q1, r1, p2, q2, r2, p3, q3, r3⟩ (by rfl) (by rfl) (HOK.out _ (gn.alloc gn.size _)).1 (heap_alloc_new _ _) (HOK.out _ (gn.alloc gn.size _)).2.1 HPL.out.1 ?_
          intro v9 w9 o9 f9 b9
          have hb9 : w9.heap[b]? = some (.cells #[.string g.nm, .int .i64 g.hd, .int .i64 g.tk, .int .i64 g.ex, .slice na ns.length nk, .slice sa j sc] 31 (0, 0)) := (f9 b (HOK.out _ (gn.alloc gn.size _)).2.2.2 HPL.out.2.2).trans (HOK.out _ (gn.alloc gn.size _)).2.2.1
          obtain ⟨z5, zf5⟩ := Rg.blk_cell hb9 5 (x := .slice sa j sc) rfl
          obtain ⟨a9, k9, rfl⟩ : ∃ a c, v9 = .slice a (j + 1) c := (by have q := o9.slice; rw [List.length_append, HPL.out.2.1] at q; exact q)
          have HFIN : Hid ((∃ vs, Mk w (w9.setCell ⟨b, 5, none⟩ (.slice a9 (j + 1) k9)) b g (.slice na ns.length nk) vs ns ((ns.take (j + 1)).map (kOf ix g)) ∧ Below (w.heap.size + 2) w2 (w9.setCell ⟨b, 5, none⟩ (.slice a9 (j + 1) k9))) ∧ Below (w.heap.size + 2) w2 w9) := HEND.out _ _ _ _ _ _ _ _ _ _ _ _ _ gn hsg o9 f9 b9 hb9
          clear o9 f9 b9 hb9
          refine hK.out _ _ ?_ (fun hHeld => ?_)
          · exact HSx.out _ HFIN.out.2
          clear hK K
          (try simp only [Act.put, List.setIfInBounds_toArray, List.set_cons_zero, List.set_cons_succ])
          refine wpAnyH_take (i := 13) (oi := { dst := some 59, op := Go.Op.fieldAddr 31 (Go.Operand.tmp 10) 2, type := 0, pos := "l12_grants.go:95", after := #[{ on := 0, ground := Go.Ground.phase }, { on := 1, ground := Go.Ground.phase }, { on := 2, ground := Go.Ground.phase }, { on := 3, ground := Go.Ground.phase }, { on := 4, ground := Go.Ground.phase }, { on := 5, ground := Go.Ground.phase }, { on := 6, ground := Go.Ground.phase }, { on := 7, ground := Go.Ground.phase }, { on := 8, ground := Go.Ground.phase }, { on := 9, ground := Go.Ground.phase }, { on := 10, ground := Go.Ground.phase }, { on := 11, ground := Go.Ground.phase }, { on := 12, ground := Go.Ground.phase }], guard := none }) (v := ?v8) rfl (by kernel_rfl) (by kernel_rfl) (by kernel_rfl) (fun _ _ _ h => h) (Or.inl ⟨by rfl, ?h8⟩) hHeld ?r8
          case h8 => (intro wz hz; (try dsimp only at hz); obtain ⟨y0, y1, y2, y3, y4⟩ := hz; go_simp; try (with_reducible rfl))
          simp only [Act.put, List.setIfInBounds_toArray, List.set_cons_zero, List.set_cons_succ]
          refine wpAnyH_ready (rs := [14]) (by kernel_rfl) (by simp) ?_
          refine (AllReadyH.cons (o := { dst := none, op := Go.Op.store 29 (Go.Operand.tmp 59) (Go.Operand.tmp 58), type := 0, pos := "l12_grants.go:95", after := #[{ on := 13, ground := Go.Ground.data }, { on := 12, ground := Go.Ground.data }, { on := 12, ground := Go.Ground.chain }, { on := 0, ground := Go.Ground.phase }, { on := 1, ground := Go.Ground.phase }, { on := 2, ground := Go.Ground.phase }, { on := 3, ground := Go.Ground.phase }, { on := 4, ground := Go.Ground.phase }, { on := 5, ground := Go.Ground.phase }, { on := 6, ground := Go.Ground.phase }, { on := 7, ground := Go.Ground.phase }, { on := 8, ground := Go.Ground.phase }, { on := 9, ground := Go.Ground.phase }, { on := 10, ground := Go.Ground.phase }, { on := 11, ground := Go.Ground.phase }, { on := 12, ground := Go.Ground.phase }], guard := none }) rfl (fun K hK => ?_) AllReadyH.nil)
          go_simp
          refine hK.out _ _ ?_ (fun hHeld => ?_)
          · exact HSx.out _ (by obtain ⟨_, _, q⟩ := HFIN.out.1; exact q)
          clear hK K
          (try simp only [Act.put, List.setIfInBounds_toArray, List.set_cons_zero, List.set_cons_succ])
          refine wpAnyH_done (by kernel_rfl) ?_ _
          refine NoPanic.normal ?_
          generalize w9.setCell ⟨b, 5, none⟩ (.slice a9 (j + 1) k9) = w6 at HFIN ⊢
          clear HFT HS1 HN1 HOK HSr HSx HEND hHeld
          go_wp2_with fail
          exact ⟨⟨j + 1, by omega, by go_num, HFIN.out.1⟩, by simp [intOf]; omega⟩
        · go_simp
          go_at_call 42
          refine (HS1.out _).mono ?_
          rintro e ws ⟨rfl, bs⟩
          have gs : Below wr.heap.size wr ws := (Below.refl wr.heap.size wr).drew.trans (bs.mono (Below.refl wr.heap.size wr).drew.size)
          have s5 := (HFT.out ws gs).1.2
          clear bs
          try go_simp
          refine hK.out _ _ ?_ (fun hHeld => ?_)
          · exact HSr.out _ gs
          clear hK K
          (try simp only [Act.put, List.setIfInBounds_toArray, List.set_cons_zero, List.set_cons_succ])
          refine wpAnyH_ready (rs := [1, 9]) (by kernel_rfl) (by simp) ?_
          refine (AllReadyH.cons (o := { dst := some 47, op := Go.Op.load 29 (Go.Operand.tmp 46), type := 29, pos := "l12_grants.go:95", after := #[{ on := 0, ground := Go.Ground.data }], guard := none }) rfl (fun K hK => ?_) (AllReadyH.cons (o := { dst := some 55, op := Go.Op.call { callee := Go.Callee.value (Go.Operand.func 43), args := #[Go.Operand.tmp 54], argTypes := #[24] }, type := 9, pos := "l12_grants.go:95", after := #[{ on := 8, ground := Go.Ground.data }, { on := 6, ground := Go.Ground.chain }], guard := none }) rfl (fun K hK => ?_) AllReadyH.nil))
          · go_simp
            refine hK.out _ _ ?_ (fun hHeld => ?_)
            · exact hHeld
            clear hK K
            (try simp only [Act.put, List.setIfInBounds_toArray, List.set_cons_zero, List.set_cons_succ])
            refine wpAnyH_ready (rs := [9]) (by kernel_rfl) (by simp) ?_
            refine (AllReadyH.cons (o := { dst := some 55, op := Go.Op.call { callee := Go.Callee.value (Go.Operand.func 43), args := #[Go.Operand.tmp 54], argTypes := #[24] }, type := 9, pos := "l12_grants.go:95", after := #[{ on := 8, ground := Go.Ground.data }, { on := 6, ground := Go.Ground.chain }], guard := none }) rfl (fun K hK => ?_) AllReadyH.nil)
            go_simp
            go_at_call 43
            refine (HTX.out _).mono ?_
            rintro e wt ⟨rfl, bt⟩
            have gt : Below wr.heap.size wr wt := gs.trans (bt.mono gs.size)
            have t5 := (HFT.out wt gt).1.2
            clear bt
            try go_simp
            refine hK.out _ _ ?_ (fun hHeld => ?_)
            · exact HSr.out _ gt
            clear hK K
            (try simp only [Act.put, List.setIfInBounds_toArray, List.set_cons_zero, List.set_cons_succ])
            refine wpAnyH_ready (rs := [10]) (by kernel_rfl) (by simp) ?_
            refine (AllReadyH.cons (o := { dst := some 56, op := Go.Op.call { callee := Go.Callee.value (Go.Operand.func 45), args := #[Go.Operand.tmp 52, Go.Operand.tmp 53, Go.Operand.tmp 55], argTypes := #[9, 3, 9] }, type := 37, pos := "l12_grants.go:95", after := #[{ on := 6, ground := Go.Ground.data }, { on := 7, ground := Go.Ground.data }, { on := 9, ground := Go.Ground.data }, { on := 9, ground := Go.Ground.chain }], guard := none }) rfl (fun K hK => ?_) AllReadyH.nil)
            go_simp
            go_at_call 45
            refine (HN1.out _).mono ?_
            rintro e wn ⟨p1, q1, r1, p2, q2, r2, p3, q3, r3, rfl, hsn, bn⟩
            have hsg := hsn.out.mono gt.size
            have gn : Below wr.heap.size wr wn := gt.trans (bn.mono gt.size)
            have n5 := (HFT.out wn gn).1.2
            have na5 := fun o => (HFT.out _ (gn.alloc gn.size o)).1.2
            clear bn hsn
            try go_simp
            refine hK.out _ _ ?_ (fun hHeld => ?_)
            · exact HSr.out _ gn
            clear hK K
            (try simp only [Act.put, List.setIfInBounds_toArray, List.set_cons_zero, List.set_cons_succ])
            refine wpAnyH_ready (rs := [11]) (by kernel_rfl) (by simp) ?_
            refine (AllReadyH.cons (o := { dst := some 57, op := Go.Op.buildSlice 29 1 #[(0, Go.Operand.tmp 56)], type := 29, pos := "l12_grants.go:95", after := #[{ on := 10, ground := Go.Ground.data }], guard := none }) rfl (fun K hK => ?_) AllReadyH.nil)
            go_simp
            refine hK.out _ _ ?_ (fun hHeld => ?_)
            · exact HSr.out _ (gn.alloc gn.size _)
            clear hK K
            (try simp only [Act.put, List.setIfInBounds_toArray, List.set_cons_zero, List.set_cons_succ])
            refine wpAnyH_ready (rs := [12]) (by kernel_rfl) (by simp) ?_
            refine (AllReadyH.cons (o := { dst := some 58, op := Go.Op.call { callee := Go.Callee.builtin Go.Builtin.append, args := #[Go.Operand.tmp 47, Go.Operand.tmp 57], argTypes := #[29, 29] }, type := 29, pos := "l12_grants.go:95", after := #[{ on := 1, ground := Go.Ground.data }, { on := 11, ground := Go.Ground.data }, { on := 10, ground := Go.Ground.chain }], guard := none }) rfl (fun K hK => ?_) AllReadyH.nil)
            refine step_key (by rfl) _ _ 29 (by rfl) i0 Tryz.underlying29 hi0 hz0 hz1 hz2 (w.heap.size + 2) _ _ _ 37 (0, 0) ps ⟨ki, p1, q1, r1, p2, q2, r2, p3, q3, r3⟩ (by rfl) (by rfl) (HOK.out _ (gn.alloc gn.size _)).1 (heap_alloc_new _ _) (HOK.out _ (gn.alloc gn.size _)).2.1 HPL.out.1 ?_
            intro v9 w9 o9 f9 b9
            have hb9 : w9.heap[b]? = some (.cells #[.string g.nm, .int .i64 g.hd, .int .i64 g.tk, .int .i64 g.ex, .slice na ns.length nk, .slice sa j sc] 31 (0, 0)) := (f9 b (HOK.out _ (gn.alloc gn.size _)).2.2.2 HPL.out.2.2).trans (HOK.out _ (gn.alloc gn.size _)).2.2.1
            obtain ⟨z5, zf5⟩ := Rg.blk_cell hb9 5 (x := .slice sa j sc) rfl
            obtain ⟨a9, k9, rfl⟩ : ∃ a c, v9 = .slice a (j + 1) c := (by have q := o9.slice; rw [List.length_append, HPL.out.2.1] at q; exact q)
            have HFIN : Hid ((∃ vs, Mk w (w9.setCell ⟨b, 5, none⟩ (.slice a9 (j + 1) k9)) b g (.slice na ns.length nk) vs ns ((ns.take (j + 1)).map (kOf ix g)) ∧ Below (w.heap.size + 2) w2 (w9.setCell ⟨b, 5, none⟩ (.slice a9 (j + 1) k9))) ∧ Below (w.heap.size + 2) w2 w9) := HEND.out _ _ _ _ _ _ _ _ _ _ _ _ _ gn hsg o9 f9 b9 hb9
            clear o9 f9 b9 hb9
            refine hK.out _ _ ?_ (fun hHeld => ?_)
            · exact HSx.out _ HFIN.out.2
            clear hK K
            (try simp only [Act.put, List.setIfInBounds_toArray, List.set_cons_zero, List.set_cons_succ])
            refine wpAnyH_take (i := 13) (oi := { dst := some 59, op := Go.Op.fieldAddr 31 (Go.Operand.tmp 10) 2, type := 0, pos := "l12_grants.go:95", after := #[{ on := 0, ground := Go.Ground.phase }, { on := 1, ground := Go.Ground.phase }, { on := 2, ground := Go.Ground.phase }, { on := 3, ground := Go.Ground.phase }, { on := 4, ground := Go.Ground.phase }, { on := 5, ground := Go.Ground.phase }, { on := 6, ground := Go.Ground.phase }, { on := 7, ground := Go.Ground.phase }, { on := 8, ground := Go.Ground.phase }, { on := 9, ground := Go.Ground.phase }, { on := 10, ground := Go.Ground.phase }, { on := 11, ground := Go.Ground.phase }, { on := 12, ground := Go.Ground.phase }], guard := none }) (v := ?v9) rfl (by kernel_rfl) (by kernel_rfl) (by kernel_rfl) (fun _ _ _ h => h) (Or.inl ⟨by rfl, ?h9⟩) hHeld ?r9
            case h9 => (intro wz hz; (try dsimp only at hz); obtain ⟨y0, y1, y2, y3, y4⟩ := hz; go_simp; try (with_reducible rfl))
            simp only [Act.put, List.setIfInBounds_toArray, List.set_cons_zero, List.set_cons_succ]
            refine wpAnyH_ready (rs := [14]) (by kernel_rfl) (by simp) ?_
            refine (AllReadyH.cons (o := { dst := none, op := Go.Op.store 29 (Go.Operand.tmp 59) (Go.Operand.tmp 58), type := 0, pos := "l12_grants.go:95", after := #[{ on := 13, ground := Go.Ground.data }, { on := 12, ground := Go.Ground.data }, { on := 12, ground := Go.Ground.chain }, { on := 0, ground := Go.Ground.phase }, { on := 1, ground := Go.Ground.phase }, { on := 2, ground := Go.Ground.phase }, { on := 3, ground := Go.Ground.phase }, { on := 4, ground := Go.Ground.phase }, { on := 5, ground := Go.Ground.phase }, { on := 6, ground := Go.Ground.phase }, { on := 7, ground := Go.Ground.phase }, { on := 8, ground := Go.Ground.phase }, { on := 9, ground := Go.Ground.phase }, { on := 10, ground := Go.Ground.phase }, { on := 11, ground := Go.Ground.phase }, { on := 12, ground := Go.Ground.phase }], guard := none }) rfl (fun K hK => ?_) AllReadyH.nil)
            go_simp
            refine hK.out _ _ ?_ (fun hHeld => ?_)
            · exact HSx.out _ (by obtain ⟨_, _, q⟩ := HFIN.out.1; exact q)
            clear hK K
            (try simp only [Act.put, List.setIfInBounds_toArray, List.set_cons_zero, List.set_cons_succ])
            refine wpAnyH_done (by kernel_rfl) ?_ _
            refine NoPanic.normal ?_
            generalize w9.setCell ⟨b, 5, none⟩ (.slice a9 (j + 1) k9) = w6 at HFIN ⊢
            clear HFT HS1 HN1 HOK HSr HSx HEND hHeld
            go_wp2_with fail
            exact ⟨⟨j + 1, by omega, by go_num, HFIN.out.1⟩, by simp [intOf]; omega⟩
          · go_simp
            go_at_call 43
            refine (HTX.out _).mono ?_
            rintro e wt ⟨rfl, bt⟩
            have gt : Below wr.heap.size wr wt := gs.trans (bt.mono gs.size)
            have t5 := (HFT.out wt gt).1.2
            clear bt
            try go_simp
            refine hK.out _ _ ?_ (fun hHeld => ?_)
            · exact HSr.out _ gt
            clear hK K
            (try simp only [Act.put, List.setIfInBounds_toArray, List.set_cons_zero, List.set_cons_succ])
            refine wpAnyH_ready (rs := [1, 10]) (by kernel_rfl) (by simp) ?_
            refine (AllReadyH.cons (o := { dst := some 47, op := Go.Op.load 29 (Go.Operand.tmp 46), type := 29, pos := "l12_grants.go:95", after := #[{ on := 0, ground := Go.Ground.data }], guard := none }) rfl (fun K hK => ?_) (AllReadyH.cons (o := { dst := some 56, op := Go.Op.call { callee := Go.Callee.value (Go.Operand.func 45), args := #[Go.Operand.tmp 52, Go.Operand.tmp 53, Go.Operand.tmp 55], argTypes := #[9, 3, 9] }, type := 37, pos := "l12_grants.go:95", after := #[{ on := 6, ground := Go.Ground.data }, { on := 7, ground := Go.Ground.data }, { on := 9, ground := Go.Ground.data }, { on := 9, ground := Go.Ground.chain }], guard := none }) rfl (fun K hK => ?_) AllReadyH.nil))
            · go_simp
              refine hK.out _ _ ?_ (fun hHeld => ?_)
              · exact hHeld
              clear hK K
              (try simp only [Act.put, List.setIfInBounds_toArray, List.set_cons_zero, List.set_cons_succ])
              refine wpAnyH_ready (rs := [10]) (by kernel_rfl) (by simp) ?_
              refine (AllReadyH.cons (o := { dst := some 56, op := Go.Op.call { callee := Go.Callee.value (Go.Operand.func 45), args := #[Go.Operand.tmp 52, Go.Operand.tmp 53, Go.Operand.tmp 55], argTypes := #[9, 3, 9] }, type := 37, pos := "l12_grants.go:95", after := #[{ on := 6, ground := Go.Ground.data }, { on := 7, ground := Go.Ground.data }, { on := 9, ground := Go.Ground.data }, { on := 9, ground := Go.Ground.chain }], guard := none }) rfl (fun K hK => ?_) AllReadyH.nil)
              go_simp
              go_at_call 45
              refine (HN1.out _).mono ?_
              rintro e wn ⟨p1, q1, r1, p2, q2, r2, p3, q3, r3, rfl, hsn, bn⟩
              have hsg := hsn.out.mono gt.size
              have gn : Below wr.heap.size wr wn := gt.trans (bn.mono gt.size)
              have n5 := (HFT.out wn gn).1.2
              have na5 := fun o => (HFT.out _ (gn.alloc gn.size o)).1.2
              clear bn hsn
              try go_simp
              refine hK.out _ _ ?_ (fun hHeld => ?_)
              · exact HSr.out _ gn
              clear hK K
              (try simp only [Act.put, List.setIfInBounds_toArray, List.set_cons_zero, List.set_cons_succ])
              refine wpAnyH_ready (rs := [11]) (by kernel_rfl) (by simp) ?_
              refine (AllReadyH.cons (o := { dst := some 57, op := Go.Op.buildSlice 29 1 #[(0, Go.Operand.tmp 56)], type := 29, pos := "l12_grants.go:95", after := #[{ on := 10, ground := Go.Ground.data }], guard := none }) rfl (fun K hK => ?_) AllReadyH.nil)
              go_simp
              refine hK.out _ _ ?_ (fun hHeld => ?_)
              · exact HSr.out _ (gn.alloc gn.size _)
              clear hK K
              (try simp only [Act.put, List.setIfInBounds_toArray, List.set_cons_zero, List.set_cons_succ])
              refine wpAnyH_ready (rs := [12]) (by kernel_rfl) (by simp) ?_
              refine (AllReadyH.cons (o := { dst := some 58, op := Go.Op.call { callee := Go.Callee.builtin Go.Builtin.append, args := #[Go.Operand.tmp 47, Go.Operand.tmp 57], argTypes := #[29, 29] }, type := 29, pos := "l12_grants.go:95", after := #[{ on := 1, ground := Go.Ground.data }, { on := 11, ground := Go.Ground.data }, { on := 10, ground := Go.Ground.chain }], guard := none }) rfl (fun K hK => ?_) AllReadyH.nil)
              refine step_key (by rfl) _ _ 29 (by rfl) i0 Tryz.underlying29 hi0 hz0 hz1 hz2 (w.heap.size + 2) _ _ _ 37 (0, 0) ps ⟨ki, p1, q1, r1, p2, q2, r2, p3, q3, r3⟩ (by rfl) (by rfl) (HOK.out _ (gn.alloc gn.size _)).1 (heap_alloc_new _ _) (HOK.out _ (gn.alloc gn.size _)).2.1 HPL.out.1 ?_
              intro v9 w9 o9 f9 b9
              have hb9 : w9.heap[b]? = some (.cells #[.string g.nm, .int .i64 g.hd, .int .i64 g.tk, .int .i64 g.ex, .slice na ns.length nk, .slice sa j sc] 31 (0, 0)) := (f9 b (HOK.out _ (gn.alloc gn.size _)).2.2.2 HPL.out.2.2).trans (HOK.out _ (gn.alloc gn.size _)).2.2.1
              obtain ⟨z5, zf5⟩ := Rg.blk_cell hb9 5 (x := .slice sa j sc) rfl
              obtain ⟨a9, k9, rfl⟩ : ∃ a c, v9 = .slice a (j + 1) c := (by have q := o9.slice; rw [List.length_append, HPL.out.2.1] at q; exact q)
              have HFIN : Hid ((∃ vs, Mk w (w9.setCell ⟨b, 5, none⟩ (.slice a9 (j + 1) k9)) b g (.slice na ns.length nk) vs ns ((ns.take (j + 1)).map (kOf ix g)) ∧ Below (w.heap.size + 2) w2 (w9.setCell ⟨b, 5, none⟩ (.slice a9 (j + 1) k9))) ∧ Below (w.heap.size + 2) w2 w9) := HEND.out _ _ _ _ _ _ _ _ _ _ _ _ _ gn hsg o9 f9 b9 hb9
              clear o9 f9 b9 hb9
              refine hK.out _ _ ?_ (fun hHeld => ?_)
              · exact HSx.out _ HFIN.out.2
              clear hK K
              (try simp only [Act.put, List.setIfInBounds_toArray, List.set_cons_zero, List.set_cons_succ])
              refine wpAnyH_take (i := 13) (oi := { dst := some 59, op := Go.Op.fieldAddr 31 (Go.Operand.tmp 10) 2, type := 0, pos := "l12_grants.go:95", after := #[{ on := 0, ground := Go.Ground.phase }, { on := 1, ground := Go.Ground.phase }, { on := 2, ground := Go.Ground.phase }, { on := 3, ground := Go.Ground.phase }, { on := 4, ground := Go.Ground.phase }, { on := 5, ground := Go.Ground.phase }, { on := 6, ground := Go.Ground.phase }, { on := 7, ground := Go.Ground.phase }, { on := 8, ground := Go.Ground.phase }, { on := 9, ground := Go.Ground.phase }, { on := 10, ground := Go.Ground.phase }, { on := 11, ground := Go.Ground.phase }, { on := 12, ground := Go.Ground.phase }], guard := none }) (v := ?v10) rfl (by kernel_rfl) (by kernel_rfl) (by kernel_rfl) (fun _ _ _ h => h) (Or.inl ⟨by rfl, ?h10⟩) hHeld ?r10
              case h10 => (intro wz hz; (try dsimp only at hz); obtain ⟨y0, y1, y2, y3, y4⟩ := hz; go_simp; try (with_reducible rfl))
              simp only [Act.put, List.setIfInBounds_toArray, List.set_cons_zero, List.set_cons_succ]
              refine wpAnyH_ready (rs := [14]) (by kernel_rfl) (by simp) ?_
              refine (AllReadyH.cons (o := { dst := none, op := Go.Op.store 29 (Go.Operand.tmp 59) (Go.Operand.tmp 58), type := 0, pos := "l12_grants.go:95", after := #[{ on := 13, ground := Go.Ground.data }, { on := 12, ground := Go.Ground.data }, { on := 12, ground := Go.Ground.chain }, { on := 0, ground := Go.Ground.phase }, { on := 1, ground := Go.Ground.phase }, { on := 2, ground := Go.Ground.phase }, { on := 3, ground := Go.Ground.phase }, { on := 4, ground := Go.Ground.phase }, { on := 5, ground := Go.Ground.phase }, { on := 6, ground := Go.Ground.phase }, { on := 7, ground := Go.Ground.phase }, { on := 8, ground := Go.Ground.phase }, { on := 9, ground := Go.Ground.phase }, { on := 10, ground := Go.Ground.phase }, { on := 11, ground := Go.Ground.phase }, { on := 12, ground := Go.Ground.phase }], guard := none }) rfl (fun K hK => ?_) AllReadyH.nil)
              go_simp
              refine hK.out _ _ ?_ (fun hHeld => ?_)
              · exact HSx.out _ (by obtain ⟨_, _, q⟩ := HFIN.out.1; exact q)
              clear hK K
              (try simp only [Act.put, List.setIfInBounds_toArray, List.set_cons_zero, List.set_cons_succ])
              refine wpAnyH_done (by kernel_rfl) ?_ _
              refine NoPanic.normal ?_
              generalize w9.setCell ⟨b, 5, none⟩ (.slice a9 (j + 1) k9) = w6 at HFIN ⊢
              clear HFT HS1 HN1 HOK HSr HSx HEND hHeld
              go_wp2_with fail
              exact ⟨⟨j + 1, by omega, by go_num, HFIN.out.1⟩, by simp [intOf]; omega⟩
            · go_simp
              go_at_call 45
              refine (HN1.out _).mono ?_
              rintro e wn ⟨p1, q1, r1, p2, q2, r2, p3, q3, r3, rfl, hsn, bn⟩
              have hsg := hsn.out.mono gt.size
              have gn : Below wr.heap.size wr wn := gt.trans (bn.mono gt.size)
              have n5 := (HFT.out wn gn).1.2
              have na5 := fun o => (HFT.out _ (gn.alloc gn.size o)).1.2
              clear bn hsn
              try go_simp
              refine hK.out _ _ ?_ (fun hHeld => ?_)
              · exact HSr.out _ gn
              clear hK K
              (try simp only [Act.put, List.setIfInBounds_toArray, List.set_cons_zero, List.set_cons_succ])
              refine wpAnyH_ready (rs := [1, 11]) (by kernel_rfl) (by simp) ?_
              refine (AllReadyH.cons (o := { dst := some 47, op := Go.Op.load 29 (Go.Operand.tmp 46), type := 29, pos := "l12_grants.go:95", after := #[{ on := 0, ground := Go.Ground.data }], guard := none }) rfl (fun K hK => ?_) (AllReadyH.cons (o := { dst := some 57, op := Go.Op.buildSlice 29 1 #[(0, Go.Operand.tmp 56)], type := 29, pos := "l12_grants.go:95", after := #[{ on := 10, ground := Go.Ground.data }], guard := none }) rfl (fun K hK => ?_) AllReadyH.nil))
              · go_simp
                refine hK.out _ _ ?_ (fun hHeld => ?_)
                · exact hHeld
                clear hK K
                (try simp only [Act.put, List.setIfInBounds_toArray, List.set_cons_zero, List.set_cons_succ])
                refine wpAnyH_ready (rs := [11]) (by kernel_rfl) (by simp) ?_
                refine (AllReadyH.cons (o := { dst := some 57, op := Go.Op.buildSlice 29 1 #[(0, Go.Operand.tmp 56)], type := 29, pos := "l12_grants.go:95", after := #[{ on := 10, ground := Go.Ground.data }], guard := none }) rfl (fun K hK => ?_) AllReadyH.nil)
                go_simp
                refine hK.out _ _ ?_ (fun hHeld => ?_)
                · exact HSr.out _ (gn.alloc gn.size _)
                clear hK K
                (try simp only [Act.put, List.setIfInBounds_toArray, List.set_cons_zero, List.set_cons_succ])
                refine wpAnyH_ready (rs := [12]) (by kernel_rfl) (by simp) ?_
                refine (AllReadyH.cons (o := { dst := some 58, op := Go.Op.call { callee := Go.Callee.builtin Go.Builtin.append, args := #[Go.Operand.tmp 47, Go.Operand.tmp 57], argTypes := #[29, 29] }, type := 29, pos := "l12_grants.go:95", after := #[{ on := 1, ground := Go.Ground.data }, { on := 11, ground := Go.Ground.data }, { on := 10, ground := Go.Ground.chain }], guard := none }) rfl (fun K hK => ?_) AllReadyH.nil)
                refine step_key (by rfl) _ _ 29 (by rfl) i0 Tryz.underlying29 hi0 hz0 hz1 hz2 (w.heap.size + 2) _ _ _ 37 (0, 0) ps ⟨ki, p1, q1, r1, p2, q2, r2, p3, q3, r3⟩ (by rfl) (by rfl) (HOK.out _ (gn.alloc gn.size _)).1 (heap_alloc_new _ _) (HOK.out _ (gn.alloc gn.size _)).2.1 HPL.out.1 ?_
                intro v9 w9 o9 f9 b9
                have hb9 : w9.heap[b]? = some (.cells #[.string g.nm, .int .i64 g.hd, .int .i64 g.tk, .int .i64 g.ex, .slice na ns.length nk, .slice sa j sc] 31 (0, 0)) := (f9 b (HOK.out _ (gn.alloc gn.size _)).2.2.2 HPL.out.2.2).trans (HOK.out _ (gn.alloc gn.size _)).2.2.1
                obtain ⟨z5, zf5⟩ := Rg.blk_cell hb9 5 (x := .slice sa j sc) rfl
                obtain ⟨a9, k9, rfl⟩ : ∃ a c, v9 = .slice a (j + 1) c := (by have q := o9.slice; rw [List.length_append, HPL.out.2.1] at q; exact q)
                have HFIN : Hid ((∃ vs, Mk w (w9.setCell ⟨b, 5, none⟩ (.slice a9 (j + 1) k9)) b g (.slice na ns.length nk) vs ns ((ns.take (j + 1)).map (kOf ix g)) ∧ Below (w.heap.size + 2) w2 (w9.setCell ⟨b, 5, none⟩ (.slice a9 (j + 1) k9))) ∧ Below (w.heap.size + 2) w2 w9) := HEND.out _ _ _ _ _ _ _ _ _ _ _ _ _ gn hsg o9 f9 b9 hb9
                clear o9 f9 b9 hb9
                refine hK.out _ _ ?_ (fun hHeld => ?_)
                · exact HSx.out _ HFIN.out.2
                clear hK K
                (try simp only [Act.put, List.setIfInBounds_toArray, List.set_cons_zero, List.set_cons_succ])
                refine wpAnyH_take (i := 13) (oi := { dst := some 59, op := Go.Op.fieldAddr 31 (Go.Operand.tmp 10) 2, type := 0, pos := "l12_grants.go:95", after := #[{ on := 0, ground := Go.Ground.phase }, { on := 1, ground := Go.Ground.phase }, { on := 2, ground := Go.Ground.phase }, { on := 3, ground := Go.Ground.phase }, { on := 4, ground := Go.Ground.phase }, { on := 5, ground := Go.Ground.phase }, { on := 6, ground := Go.Ground.phase }, { on := 7, ground := Go.Ground.phase }, { on := 8, ground := Go.Ground.phase }, { on := 9, ground := Go.Ground.phase }, { on := 10, ground := Go.Ground.phase }, { on := 11, ground := Go.Ground.phase }, { on := 12, ground := Go.Ground.phase }], guard := none }) (v := ?v11) rfl (by kernel_rfl) (by kernel_rfl) (by kernel_rfl) (fun _ _ _ h => h) (Or.inl ⟨by rfl, ?h11⟩) hHeld ?r11
                case h11 => (intro wz hz; (try dsimp only at hz); obtain ⟨y0, y1, y2, y3, y4⟩ := hz; go_simp; try (with_reducible rfl))
                simp only [Act.put, List.setIfInBounds_toArray, List.set_cons_zero, List.set_cons_succ]
                refine wpAnyH_ready (rs := [14]) (by kernel_rfl) (by simp) ?_
                refine (AllReadyH.cons (o := { dst := none, op := Go.Op.store 29 (Go.Operand.tmp 59) (Go.Operand.tmp 58), type := 0, pos := "l12_grants.go:95", after := #[{ on := 13, ground := Go.Ground.data }, { on := 12, ground := Go.Ground.data }, { on := 12, ground := Go.Ground.chain }, { on := 0, ground := Go.Ground.phase }, { on := 1, ground := Go.Ground.phase }, { on := 2, ground := Go.Ground.phase }, { on := 3, ground := Go.Ground.phase }, { on := 4, ground := Go.Ground.phase }, { on := 5, ground := Go.Ground.phase }, { on := 6, ground := Go.Ground.phase }, { on := 7, ground := Go.Ground.phase }, { on := 8, ground := Go.Ground.phase }, { on := 9, ground := Go.Ground.phase }, { on := 10, ground := Go.Ground.phase }, { on := 11, ground := Go.Ground.phase }, { on := 12, ground := Go.Ground.phase }], guard := none }) rfl (fun K hK => ?_) AllReadyH.nil)
                go_simp
                refine hK.out _ _ ?_ (fun hHeld => ?_)
                · exact HSx.out _ (by obtain ⟨_, _, q⟩ := HFIN.out.1; exact q)
                clear hK K
                (try simp only [Act.put, List.setIfInBounds_toArray, List.set_cons_zero, List.set_cons_succ])
                refine wpAnyH_done (by kernel_rfl) ?_ _
                refine NoPanic.normal ?_
                generalize w9.setCell ⟨b, 5, none⟩ (.slice a9 (j + 1) k9) = w6 at HFIN ⊢
                clear HFT HS1 HN1 HOK HSr HSx HEND hHeld
                go_wp2_with fail
                exact ⟨⟨j + 1, by omega, by go_num, HFIN.out.1⟩, by simp [intOf]; omega⟩
              · go_simp
                refine hK.out _ _ ?_ (fun hHeld => ?_)
                · exact HSr.out _ (gn.alloc gn.size _)
                clear hK K
                (try simp only [Act.put, List.setIfInBounds_toArray, List.set_cons_zero, List.set_cons_succ])
                refine wpAnyH_ready (rs := [1]) (by kernel_rfl) (by simp) ?_
                refine (AllReadyH.cons (o := { dst := some 47, op := Go.Op.load 29 (Go.Operand.tmp 46), type := 29, pos := "l12_grants.go:95", after := #[{ on := 0, ground := Go.Ground.data }], guard := none }) rfl (fun K hK => ?_) AllReadyH.nil)
                go_simp
                refine hK.out _ _ ?_ (fun hHeld => ?_)
                · exact hHeld
                clear hK K
                (try simp only [Act.put, List.setIfInBounds_toArray, List.set_cons_zero, List.set_cons_succ])
                refine wpAnyH_ready (rs := [12]) (by kernel_rfl) (by simp) ?_
                refine (AllReadyH.cons (o := { dst := some 58, op := Go.Op.call { callee := Go.Callee.builtin Go.Builtin.append, args := #[Go.Operand.tmp 47, Go.Operand.tmp 57], argTypes := #[29, 29] }, type := 29, pos := "l12_grants.go:95", after := #[{ on := 1, ground := Go.Ground.data }, { on := 11, ground := Go.Ground.data }, { on := 10, ground := Go.Ground.chain }], guard := none }) rfl (fun K hK => ?_) AllReadyH.nil)
                refine step_key (by rfl) _ _ 29 (by rfl) i0 Tryz.underlying29 hi0 hz0 hz1 hz2 (w.heap.size + 2) _ _ _ 37 (0, 0) ps ⟨ki, p1, q1, r1, p2, q2, r2, p3, q3, r3⟩ (by rfl) (by rfl) (HOK.out _ (gn.alloc gn.size _)).1 (heap_alloc_new _ _) (HOK.out _ (gn.alloc gn.size _)).2.1 HPL.out.1 ?_
                intro v9 w9 o9 f9 b9
                have hb9 : w9.heap[b]? = some (.cells #[.string g.nm, .int .i64 g.hd, .int .i64 g.tk, .int .i64 g.ex, .slice na ns.length nk, .slice sa j sc] 31 (0, 0)) := (f9 b (HOK.out _ (gn.alloc gn.size _)).2.2.2 HPL.out.2.2).trans (HOK.out _ (gn.alloc gn.size _)).2.2.1
                obtain ⟨z5, zf5⟩ := Rg.blk_cell hb9 5 (x := .slice sa j sc) rfl
                obtain ⟨a9, k9, rfl⟩ : ∃ a c, v9 = .slice a (j + 1) c := (by have q := o9.slice; rw [List.length_append, HPL.out.2.1] at q; exact q)
                have HFIN : Hid ((∃ vs, Mk w (w9.setCell ⟨b, 5, none⟩ (.slice a9 (j + 1) k9)) b g (.slice na ns.length nk) vs ns ((ns.take (j + 1)).map (kOf ix g)) ∧ Below (w.heap.size + 2) w2 (w9.setCell ⟨b, 5, none⟩ (.slice a9 (j + 1) k9))) ∧ Below (w.heap.size + 2) w2 w9) := HEND.out _ _ _ _ _ _ _ _ _ _ _ _ _ gn hsg o9 f9 b9 hb9
                clear o9 f9 b9 hb9
                refine hK.out _ _ ?_ (fun hHeld => ?_)
                · exact HSx.out _ HFIN.out.2
                clear hK K
                (try simp only [Act.put, List.setIfInBounds_toArray, List.set_cons_zero, List.set_cons_succ])
                refine wpAnyH_take (i := 13) (oi := { dst := some 59, op := Go.Op.fieldAddr 31 (Go.Operand.tmp 10) 2, type := 0, pos := "l12_grants.go:95", after := #[{ on := 0, ground := Go.Ground.phase }, { on := 1, ground := Go.Ground.phase }, { on := 2, ground := Go.Ground.phase }, { on := 3, ground := Go.Ground.phase }, { on := 4, ground := Go.Ground.phase }, { on := 5, ground := Go.Ground.phase }, { on := 6, ground := Go.Ground.phase }, { on := 7, ground := Go.Ground.phase }, { on := 8, ground := Go.Ground.phase }, { on := 9, ground := Go.Ground.phase }, { on := 10, ground := Go.Ground.phase }, { on := 11, ground := Go.Ground.phase }, { on := 12, ground := Go.Ground.phase }], guard := none }) (v := ?v12) rfl (by kernel_rfl) (by kernel_rfl) (by kernel_rfl) (fun _ _ _ h => h) (Or.inl ⟨by rfl, ?h12⟩) hHeld ?r12
                case h12 => (intro wz hz; (try dsimp only at hz); obtain ⟨y0, y1, y2, y3, y4⟩ := hz; go_simp; try (with_reducible rfl))
                simp only [Act.put, List.setIfInBounds_toArray, List.set_cons_zero, List.set_cons_succ]
                refine wpAnyH_ready (rs := [14]) (by kernel_rfl) (by simp) ?_
                refine (AllReadyH.cons (o := { dst := none, op := Go.Op.store 29 (Go.Operand.tmp 59) (Go.Operand.tmp 58), type := 0, pos := "l12_grants.go:95", after := #[{ on := 13, ground := Go.Ground.data }, { on := 12, ground := Go.Ground.data }, { on := 12, ground := Go.Ground.chain }, { on := 0, ground := Go.Ground.phase }, { on := 1, ground := Go.Ground.phase }, { on := 2, ground := Go.Ground.phase }, { on := 3, ground := Go.Ground.phase }, { on := 4, ground := Go.Ground.phase }, { on := 5, ground := Go.Ground.phase }, { on := 6, ground := Go.Ground.phase }, { on := 7, ground := Go.Ground.phase }, { on := 8, ground := Go.Ground.phase }, { on := 9, ground := Go.Ground.phase }, { on := 10, ground := Go.Ground.phase }, { on := 11, ground := Go.Ground.phase }, { on := 12, ground := Go.Ground.phase }], guard := none }) rfl (fun K hK => ?_) AllReadyH.nil)
                go_simp
                refine hK.out _ _ ?_ (fun hHeld => ?_)
                · exact HSx.out _ (by obtain ⟨_, _, q⟩ := HFIN.out.1; exact q)
                clear hK K
                (try simp only [Act.put, List.setIfInBounds_toArray, List.set_cons_zero, List.set_cons_succ])
                refine wpAnyH_done (by kernel_rfl) ?_ _
                refine NoPanic.normal ?_
                generalize w9.setCell ⟨b, 5, none⟩ (.slice a9 (j + 1) k9) = w6 at HFIN ⊢
                clear HFT HS1 HN1 HOK HSr HSx HEND hHeld
                go_wp2_with fail
                exact ⟨⟨j + 1, by omega, by go_num, HFIN.out.1⟩, by simp [intOf]; omega⟩
      · obtain rfl : j = ns.length := by omega
        have hbx := HMK.out.1.bx
        have d0 := (Rg.blk_cell hbx 0 (x := .string g.nm) rfl).1
        have d1 := (Rg.blk_cell hbx 1 (x := .int .i64 g.hd) rfl).1
        have d2 := (Rg.blk_cell hbx 2 (x := .int .i64 g.tk) rfl).1
        have d3 := (Rg.blk_cell hbx 3 (x := .int .i64 g.ex) rfl).1
        have d4 := (Rg.blk_cell hbx 4 (x := .slice na ns.length nk) rfl).1
        have d5 := (Rg.blk_cell hbx 5 (x := .slice sa ns.length sc) rfl).1
        obtain ⟨z0, zf0⟩ := Rg.blk_cell hwr.2.1 0 (x := .string ⟨#[]⟩) rfl
        obtain ⟨z1, zf1⟩ := Rg.blk_cell hwr.2.1 1 (x := .int .i64 0) rfl
        obtain ⟨z2, zf2⟩ := Rg.blk_cell hwr.2.1 2 (x := .int .i64 0) rfl
        obtain ⟨z3, zf3⟩ := Rg.blk_cell hwr.2.1 3 (x := .int .i64 0) rfl
        obtain ⟨z4, zf4⟩ := Rg.blk_cell hwr.2.1 4 (x := .slice none 0 0) rfl
        obtain ⟨z5, zf5⟩ := Rg.blk_cell hwr.2.1 5 (x := .slice none 0 0) rfl
        have AF : ((((((wr.setCell ⟨w.heap.size + 1, 0, none⟩ (.string g.nm)).setCell ⟨w.heap.size + 1, 1, none⟩ (.int .i64 g.hd)).setCell ⟨w.heap.size + 1, 2, none⟩ (.int .i64 g.tk)).setCell ⟨w.heap.size + 1, 3, none⟩ (.int .i64 g.ex)).setCell ⟨w.heap.size + 1, 4, none⟩ (.slice na ns.length nk)).setCell ⟨w.heap.size + 1, 5, none⟩ (.slice sa ns.length sc)).heap[w.heap.size + 1]? = some (.cells #[.string g.nm, .int .i64 g.hd, .int .i64 g.tk, .int .i64 g.ex, .slice na ns.length nk, .slice sa ns.length sc] 31 (0, 0)) := (Rg.blk_set (Rg.blk_set (Rg.blk_set (Rg.blk_set (Rg.blk_set (Rg.blk_set hwr.2.1 _ _) _ _) _ _) _ _) _ _) _ _)
        have BF : Below w.heap.size w ((((((wr.setCell ⟨w.heap.size + 1, 0, none⟩ (.string g.nm)).setCell ⟨w.heap.size + 1, 1, none⟩ (.int .i64 g.hd)).setCell ⟨w.heap.size + 1, 2, none⟩ (.int .i64 g.tk)).setCell ⟨w.heap.size + 1, 3, none⟩ (.int .i64 g.ex)).setCell ⟨w.heap.size + 1, 4, none⟩ (.slice na ns.length nk)).setCell ⟨w.heap.size + 1, 5, none⟩ (.slice sa ns.length sc)) := (Below.setCell (Below.setCell (Below.setCell (Below.setCell (Below.setCell (Below.setCell hwr.2.2 (p := ⟨w.heap.size + 1, 0, none⟩) (Nat.le_succ _) (.string g.nm)) (p := ⟨w.heap.size + 1, 1, none⟩) (Nat.le_succ _) (.int .i64 g.hd)) (p := ⟨w.heap.size + 1, 2, none⟩) (Nat.le_succ _) (.int .i64 g.tk)) (p := ⟨w.heap.size + 1, 3, none⟩) (Nat.le_succ _) (.int .i64 g.ex)) (p := ⟨w.heap.size + 1, 4, none⟩) (Nat.le_succ _) (.slice na ns.length nk)) (p := ⟨w.heap.size + 1, 5, none⟩) (Nat.le_succ _) (.slice sa ns.length sc))
        have CE : Hid (Ce ((((((wr.setCell ⟨w.heap.size + 1, 0, none⟩ (.string g.nm)).setCell ⟨w.heap.size + 1, 1, none⟩ (.int .i64 g.hd)).setCell ⟨w.heap.size + 1, 2, none⟩ (.int .i64 g.tk)).setCell ⟨w.heap.size + 1, 3, none⟩ (.int .i64 g.ex)).setCell ⟨w.heap.size + 1, 4, none⟩ (.slice na ns.length nk)).setCell ⟨w.heap.size + 1, 5, none⟩ (.slice sa ns.length sc)) (w.heap.size + 2) (.slice na ns.length nk) (.slice sa ns.length sc) ns (ns.map (kOf ix g))) := by
          have hce : Ce wr (w.heap.size + 2) (.slice na ns.length nk) (.slice sa ns.length sc) ns (ns.map (kOf ix g)) := by
            have hv := HPS.out.2.1
            rw [List.take_length] at hv
            exact ⟨HMK.out.1.nd, ps, HPS.out.1, hv.mono (by have := HMK.out.1.bl; omega)⟩
          refine hce.kept (fun x hx _ => ?_)
          have hne : x ≠ w.heap.size + 1 := by omega
          rw [Rg.blk_far hne, Rg.blk_far hne, Rg.blk_far hne, Rg.blk_far hne, Rg.blk_far hne, Rg.blk_far hne]
        clear hwr hbx
        go_wp2_with fail
        generalize ((((((wr.setCell ⟨w.heap.size + 1, 0, none⟩ (.string g.nm)).setCell ⟨w.heap.size + 1, 1, none⟩ (.int .i64 g.hd)).setCell ⟨w.heap.size + 1, 2, none⟩ (.int .i64 g.tk)).setCell ⟨w.heap.size + 1, 3, none⟩ (.int .i64 g.ex)).setCell ⟨w.heap.size + 1, 4, none⟩ (.slice na ns.length nk)).setCell ⟨w.heap.size + 1, 5, none⟩ (.slice sa ns.length sc)) = wf at AF BF CE ⊢
        have e0 := (Rg.blk_cell AF 0 (x := .string g.nm) rfl).1
        have e1 := (Rg.blk_cell AF 1 (x := .int .i64 g.hd) rfl).1
        have e2 := (Rg.blk_cell AF 2 (x := .int .i64 g.tk) rfl).1
        have e3 := (Rg.blk_cell AF 3 (x := .int .i64 g.ex) rfl).1
        have e4 := (Rg.blk_cell AF 4 (x := .slice na ns.length nk) rfl).1
        have e5 := (Rg.blk_cell AF 5 (x := .slice sa ns.length sc) rfl).1
        exact bodyPost_ret (v := .tuple #[.agg #[.string g.nm, .int .i64 g.hd, .int .i64 g.tk, .int .i64 g.ex, .slice na ns.length nk, .slice sa ns.length sc], .int .i64 0]) (by simp [results, Tryz.results16, go_sem, e0, e1, e2, e3, e4, e5]) rfl ⟨_, _, rfl, CE, BF⟩
end Go.Proofs.YtiflfcpoajijaaaGreatDoor.Kc
