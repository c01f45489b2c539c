/- New replicas: both functions that make them. -/
import Derived.Test.YtdhmmbbdckahmaaNs
import Derived.Test.YtdhmmbbdckahmaaQm
import Derived.Deep.RegionLaw
import Derived.Laws.MakeOwn
namespace Go.Proofs.Ytdhmmbbdckahmaa.Nr
open Go.RowKit Go.Proofs.Ytdhmmbbdckahmaa.Rg Go.Proofs.Ytdhmmbbdckahmaa.Tm
open Go.Proofs.Ytdhmmbbdckahmaa.Rr (grown_set grown_trans grown_refl grown_alloc)

def Kq (W w' : World) (v v' : Value) : Prop := ∀ k, k < W.heap.size → some k ≠ v.ownBlock → w'.heap[k]? = W.heap[k]? ∧ some k ≠ v'.ownBlock

def clS (p : Nat × Nat) : List Value := [.string ⟨#[]⟩, .slice (some ⟨p.1, 0, none⟩) 0 0, .slice (some ⟨p.2, 0, none⟩) 0 0, .bool false, .bool false]
theorem oneS (p : Nat × Nat) : ∀ u ∈ clS p, u.oneCell' = true := by
  intro u hu
  simp [clS] at hu
  rcases hu with rfl | rfl | rfl | rfl
  all_goals rfl
theorem lenS : ∀ (ms : List (Nat × Nat)), (ms.flatMap clS).length = ms.length * 5
  | [] => rfl
  | x :: r => by rw [List.flatMap_cons, List.length_append, lenS r]; show 5 + _ = _; simp only [List.length_cons]; omega
theorem atS : ∀ (ms : List (Nat × Nat)) (i : Nat) (x : Nat × Nat) (j : Nat), ms[i]? = some x → j < 5 → (ms.flatMap clS)[i * 5 + j]? = (clS x)[j]?
  | [], i, x, j, h, _ => by simp at h
  | y :: r, 0, x, j, h, hj => by
    simp at h; subst h
    rw [List.flatMap_cons, List.getElem?_append_left (by show _ < 5; omega)]
    simp
  | y :: r, i + 1, x, j, h, hj => by
    have h' : r[i]? = some x := by simpa using h
    rw [List.flatMap_cons, List.getElem?_append_right (by show 5 ≤ _; omega)]
    rw [show (i + 1) * 5 + j - (clS y).length = i * 5 + j by show _ - 5 = _; omega]
    exact atS r i x j h' hj
def OwnS (w : World) (B : Nat) (v : Value) (ms : List (Nat × Nat)) : Prop := w.ownsRow B 112 5 v ms.length (ms.flatMap clS)
theorem OwnS.kept {w w' : World} {B : Nat} {v : Value} {ms : List (Nat × Nat)} (h : OwnS w B v ms) (hk : ∀ g, v.ownBlock = some g → w'.heap[g]? = w.heap[g]?) : OwnS w' B v ms := by
  obtain ⟨hl, h⟩ := h
  refine ⟨hl, ?_⟩
  rcases h with h | ⟨g, cap, cur, rfl, h1, hg, h2⟩
  · exact .inl h
  · exact .inr ⟨g, cap, cur, rfl, h1, (hk g rfl).trans hg, h2⟩
theorem OwnS.lt {w : World} {B : Nat} {v : Value} {ms : List (Nat × Nat)} (h : OwnS w B v ms) : ∀ g, v.ownBlock = some g → B ≤ g ∧ g < w.heap.size := World.ownsRow.lt h
theorem OwnS.below {w w' : World} {B : Nat} {v : Value} {ms : List (Nat × Nat)} (h : OwnS w B v ms) (hb : Below w.heap.size w w') : OwnS w' B v ms := h.kept fun g hg => hb.block g (h.lt g hg).2
theorem OwnS.alloc {w : World} {B : Nat} {v : Value} {ms : List (Nat × Nat)} (h : OwnS w B v ms) (o : Obj) : OwnS (w.alloc o) B v ms := h.below (bel_new _ _)
theorem OwnS.made (w : World) (B : Nat) (hB : B ≤ w.heap.size) : OwnS (w.alloc (.cells #[] 112)) B (.slice (some ⟨w.heap.size, 0, none⟩) 0 0) [] := World.ownsRow_made w #[] 0 hB (by decide) rfl
theorem OwnS.row {w : World} {B : Nat} {v : Value} {ms : List (Nat × Nat)} (h : OwnS w B v ms) : RowG 5 E5 w v (List.replicate ms.length ()) := by
  obtain ⟨hl, h⟩ := h
  rcases h with ⟨rfl, h0⟩ | ⟨g, cap, cur, rfl, hB, hg, hc, _, hs, htk⟩
  · exact ⟨none, 0, by rw [h0]; rfl, .inl (by rw [h0]; rfl)⟩
  · refine ⟨_, cap, by rw [List.length_replicate], .inr ⟨g, 0, rfl, by rw [List.length_replicate]; exact hc, (Array.getElem?_eq_some_iff.1 hg).1, fun i x hi => ?_⟩⟩
    have hil := lt_at hi
    rw [List.length_replicate] at hil
    obtain ⟨y, hy⟩ : ∃ y, ms[i]? = some y := ⟨_, List.getElem?_eq_getElem hil⟩
    have key : ∀ j u, j < 5 → (clS y)[j]? = some u → w.cell? ⟨g, 0 + i * 5 + j, none⟩ = some u := fun j u hj hu => by
      rw [Nat.zero_add, Joins.cell_of_block hg, ← Array.getElem?_toList]
      have h1 := atS ms i y j hy hj
      rw [← htk, List.getElem?_take, if_pos (by omega)] at h1
      rw [h1, hu]
    exact ⟨key 0 _ (by decide) rfl, ⟨_, _, key 1 _ (by decide) rfl⟩, ⟨_, _, key 2 _ (by decide) rfl⟩, key 3 _ (by decide) rfl, key 4 _ (by decide) rfl⟩
theorem infoS : (Try.prog.info? 112).map (fun i => (i.zero, i.size, i.bytes)) = some (some (.agg #[.string ⟨#[]⟩, .slice none 0 0, .slice none 0 0, .bool false, .bool false]), 5, 72) := by kernel_rfl
theorem listS {P : Program} {ops : Array Oper} {rest : List Oper} {o : Oper} {a : Act} {Q : Exit → Act → World → Prop} (hgd : o.guard = none) (s x : Operand) (t : TypeId)
    (ho : o.op = .call { callee := .builtin .append, args := #[s, x], argTypes := #[t, t] }) (i : TypeInfo) (ht : P.underlying t = some (.slice 112)) (hi : P.info? 112 = some i) (hz : i.zero = some (.agg #[.string ⟨#[]⟩, .slice none 0 0, .slice none 0 0, .bool false, .bool false]))
    (hsize : i.size = 5) (hby : i.bytes = 72) (B : Nat) (w0 W : World) (v : Value) (ms : List (Nat × Nat)) (m : Nat × Nat) (hs : a.eval s = v) (hown : OwnS W B v ms) (hg0 : Below B w0 W) (hB : B ≤ W.heap.size)
    (gx : Nat) (hx : a.eval x = .slice (some ⟨gx, 0, none⟩) 1 1) (hgx : W.heap.size = gx) (hlen : ms.length ≤ 1000000)
    (h : ∀ v' w', OwnS w' B v' (ms ++ [m]) → Below B w0 w' → Kq W w' v v' → wpList P ops Q rest (a.put o.dst v') w') : wpList P ops Q (o :: rest) a (W.alloc (.cells (clS m).toArray 112)) := by
  subst hgx
  have hown' := hown.alloc (.cells (clS m).toArray 112)
  refine wpList_append_own_at (P := P) _ hgd s x t ho B 112 i _ 5 72 ht hi hz hsize hby rfl (by decide) v ms.length _ hs hown' ⟨W.heap.size, 0, none⟩ 1 1 (clS m) hx rfl ?_ (oneS m) (by unfold maxLen; omega) (by omega) (by simp; omega) ?_
  · intro j u hj
    have h2 : (⟨W.heap.size, 0, none⟩ : Addr).add j = ⟨W.heap.size, j, none⟩ := by unfold Addr.add; split <;> simp_all
    rw [h2, Joins.cell_of_block (heap_alloc_new W _), ← hj]
    simp
  · intro v' w' h1 h2 h3 h4
    refine h v' w' (by unfold OwnS; rw [List.flatMap_append, List.length_append]; simpa using h1) ((hg0.alloc hB _).grown h2 (by simp; omega) (fun k hk => (hown'.lt k hk).1)) (fun k hk hn => ⟨(h2.block k (by simp; omega) hn).trans (Below.heap_alloc W _ k hk), fun e => ?_⟩)
    rcases h4 with h4 | h4
    · exact hn (e.trans h4)
    · rw [h4] at e
      simp at e
      omega

def clC (p : Nat) : List Value := [.string ⟨#[]⟩, .slice (some ⟨p, 0, none⟩) 0 0]
theorem oneC (p : Nat) : ∀ u ∈ clC p, u.oneCell' = true := by
  intro u hu
  simp [clC] at hu
  rcases hu with rfl | rfl
  all_goals rfl
theorem lenC : ∀ (ms : List (Nat)), (ms.flatMap clC).length = ms.length * 2
  | [] => rfl
  | x :: r => by rw [List.flatMap_cons, List.length_append, lenC r]; show 2 + _ = _; simp only [List.length_cons]; omega
theorem atC : ∀ (ms : List (Nat)) (i : Nat) (x : Nat) (j : Nat), ms[i]? = some x → j < 2 → (ms.flatMap clC)[i * 2 + j]? = (clC x)[j]?
  | [], i, x, j, h, _ => by simp at h
  | y :: r, 0, x, j, h, hj => by
    simp at h; subst h
    rw [List.flatMap_cons, List.getElem?_append_left (by show _ < 2; omega)]
    simp
  | y :: r, i + 1, x, j, h, hj => by
    have h' : r[i]? = some x := by simpa using h
    rw [List.flatMap_cons, List.getElem?_append_right (by show 2 ≤ _; omega)]
    rw [show (i + 1) * 2 + j - (clC y).length = i * 2 + j by show _ - 2 = _; omega]
    exact atC r i x j h' hj
def OwnC (w : World) (B : Nat) (v : Value) (ms : List (Nat)) : Prop := w.ownsRow B 106 2 v ms.length (ms.flatMap clC)
theorem OwnC.kept {w w' : World} {B : Nat} {v : Value} {ms : List (Nat)} (h : OwnC w B v ms) (hk : ∀ g, v.ownBlock = some g → w'.heap[g]? = w.heap[g]?) : OwnC w' B v ms := by
  obtain ⟨hl, h⟩ := h
  refine ⟨hl, ?_⟩
  rcases h with h | ⟨g, cap, cur, rfl, h1, hg, h2⟩
  · exact .inl h
  · exact .inr ⟨g, cap, cur, rfl, h1, (hk g rfl).trans hg, h2⟩
theorem OwnC.lt {w : World} {B : Nat} {v : Value} {ms : List (Nat)} (h : OwnC w B v ms) : ∀ g, v.ownBlock = some g → B ≤ g ∧ g < w.heap.size := World.ownsRow.lt h
theorem OwnC.below {w w' : World} {B : Nat} {v : Value} {ms : List (Nat)} (h : OwnC w B v ms) (hb : Below w.heap.size w w') : OwnC w' B v ms := h.kept fun g hg => hb.block g (h.lt g hg).2
theorem OwnC.alloc {w : World} {B : Nat} {v : Value} {ms : List (Nat)} (h : OwnC w B v ms) (o : Obj) : OwnC (w.alloc o) B v ms := h.below (bel_new _ _)
theorem OwnC.made (w : World) (B : Nat) (hB : B ≤ w.heap.size) : OwnC (w.alloc (.cells #[] 106)) B (.slice (some ⟨w.heap.size, 0, none⟩) 0 0) [] := World.ownsRow_made w #[] 0 hB (by decide) rfl
theorem OwnC.row {w : World} {B : Nat} {v : Value} {ms : List (Nat)} (h : OwnC w B v ms) : RowG 2 E2 w v (List.replicate ms.length ()) := by
  obtain ⟨hl, h⟩ := h
  rcases h with ⟨rfl, h0⟩ | ⟨g, cap, cur, rfl, hB, hg, hc, _, hs, htk⟩
  · exact ⟨none, 0, by rw [h0]; rfl, .inl (by rw [h0]; rfl)⟩
  · refine ⟨_, cap, by rw [List.length_replicate], .inr ⟨g, 0, rfl, by rw [List.length_replicate]; exact hc, (Array.getElem?_eq_some_iff.1 hg).1, fun i x hi => ?_⟩⟩
    have hil := lt_at hi
    rw [List.length_replicate] at hil
    obtain ⟨y, hy⟩ : ∃ y, ms[i]? = some y := ⟨_, List.getElem?_eq_getElem hil⟩
    have key : ∀ j u, j < 2 → (clC y)[j]? = some u → w.cell? ⟨g, 0 + i * 2 + j, none⟩ = some u := fun j u hj hu => by
      rw [Nat.zero_add, Joins.cell_of_block hg, ← Array.getElem?_toList]
      have h1 := atC ms i y j hy hj
      rw [← htk, List.getElem?_take, if_pos (by omega)] at h1
      rw [h1, hu]
    exact ⟨key 0 _ (by decide) rfl, _, _, key 1 _ (by decide) rfl⟩
theorem infoC : (Try.prog.info? 106).map (fun i => (i.zero, i.size, i.bytes)) = some (some (.agg #[.string ⟨#[]⟩, .slice none 0 0]), 2, 40) := by kernel_rfl
theorem listC {P : Program} {ops : Array Oper} {rest : List Oper} {o : Oper} {a : Act} {Q : Exit → Act → World → Prop} (hgd : o.guard = none) (s x : Operand) (t : TypeId)
    (ho : o.op = .call { callee := .builtin .append, args := #[s, x], argTypes := #[t, t] }) (i : TypeInfo) (ht : P.underlying t = some (.slice 106)) (hi : P.info? 106 = some i) (hz : i.zero = some (.agg #[.string ⟨#[]⟩, .slice none 0 0]))
    (hsize : i.size = 2) (hby : i.bytes = 40) (B : Nat) (w0 W : World) (v : Value) (ms : List (Nat)) (m : Nat) (hs : a.eval s = v) (hown : OwnC W B v ms) (hg0 : Below B w0 W) (hB : B ≤ W.heap.size)
    (gx : Nat) (hx : a.eval x = .slice (some ⟨gx, 0, none⟩) 1 1) (hgx : W.heap.size = gx) (hlen : ms.length ≤ 1000000)
    (h : ∀ v' w', OwnC w' B v' (ms ++ [m]) → Below B w0 w' → Kq W w' v v' → wpList P ops Q rest (a.put o.dst v') w') : wpList P ops Q (o :: rest) a (W.alloc (.cells (clC m).toArray 106)) := by
  subst hgx
  have hown' := hown.alloc (.cells (clC m).toArray 106)
  refine wpList_append_own_at (P := P) _ hgd s x t ho B 106 i _ 2 40 ht hi hz hsize hby rfl (by decide) v ms.length _ hs hown' ⟨W.heap.size, 0, none⟩ 1 1 (clC m) hx rfl ?_ (oneC m) (by unfold maxLen; omega) (by omega) (by simp; omega) ?_
  · intro j u hj
    have h2 : (⟨W.heap.size, 0, none⟩ : Addr).add j = ⟨W.heap.size, j, none⟩ := by unfold Addr.add; split <;> simp_all
    rw [h2, Joins.cell_of_block (heap_alloc_new W _), ← hj]
    simp
  · intro v' w' h1 h2 h3 h4
    refine h v' w' (by unfold OwnC; rw [List.flatMap_append, List.length_append]; simpa using h1) ((hg0.alloc hB _).grown h2 (by simp; omega) (fun k hk => (hown'.lt k hk).1)) (fun k hk hn => ⟨(h2.block k (by simp; omega) hn).trans (Below.heap_alloc W _ k hk), fun e => ?_⟩)
    rcases h4 with h4 | h4
    · exact hn (e.trans h4)
    · rw [h4] at e
      simp at e
      omega

theorem rep8 (n : Nat) (h : n = 8) : List.replicate n () = List.replicate 8 () := by rw [h]
set_option maxRecDepth 100000 in
set_option maxHeartbeats 800000 in
theorem l07Slots_any (w : World) : Calls Try.prog 66 #[] w fun e w' => ∃ v us, e = .returned v ∧ OwnS w' w.heap.size v us ∧ us.length = 8 ∧ Below w.heap.size w w' := by
  obtain ⟨i0, hi0, hz0, hz1, hz2⟩ := info_parts infoS
  have O0 : Hid (OwnS (w.alloc (.cells #[] 112)) w.heap.size (.slice (some ⟨w.heap.size, 0, none⟩) 0 0) []) := OwnS.made w _ (Nat.le_refl _)
  have B0 : Hid (Below w.heap.size w (w.alloc (.cells #[] 112))) := bel_new _ _
  go_enter Try.func66, Try.ntmps66
  go_wp2_with fail
  go_loopw [1, 2] (fun out i wr => ∃ (j : Nat) (us : List (Nat × Nat)), i = .int .i64 (j : Int) ∧ j ≤ 8 ∧ Hid (OwnS wr w.heap.size out us) ∧ Hid (us.length = j) ∧ Hid (Below w.heap.size w wr)) (fun _ i _ => 8 - (intOf i).toNat)
  case atStart => exact ⟨0, [], rfl, by omega, O0, rfl, B0⟩
  case round =>
    clear O0 B0
    obtain ⟨j, us, rfl, hj, HO, HL, HB⟩ := hrel
    obtain ⟨out, HOU⟩ : ∃ out, out = u1 := ⟨_, rfl⟩
    subst HOU
    by_cases hlt : j < 8
    · have hlt' : (j : Int) < 8 := by omega
      have hul : us.length ≤ 1000000 := by rw [HL.out]; omega
      have oo : OwnS ((wr.alloc (.cells #[] 90)).alloc (.cells #[] 90)) w.heap.size out us := (HO.out.alloc _).alloc _
      have bb : Below w.heap.size w ((wr.alloc (.cells #[] 90)).alloc (.cells #[] 90)) := (HB.out.alloc HB.out.size _).alloc (by have := HB.out.size; simp; omega) _
      go_wp2_with (at_builtin; go_must (refine listS (by rfl) _ _ 61 (by rfl) i0 Try.underlying61 hi0 hz0 hz1 hz2 w.heap.size w _ _ us (wr.heap.size, wr.heap.size + 1) (by rfl) oo bb bb.size _ (by rfl) (by simp) hul ?_; intro v4 w4 o4 b4 k4))
      exact ⟨⟨j + 1, _, by go_num, by omega, o4, (by show _ = _; rw [List.length_append, HL.out]; rfl), b4⟩, by simp [intOf]; omega⟩
    · obtain rfl : j = 8 := by omega
      go_wp2_with fail
      go_ret
      exact ⟨_, us, rfl, HO.out, HL.out, HB.out⟩
theorem OwnS.slice {w : World} {B : Nat} {v : Value} {ms : List (Nat × Nat)} (h : OwnS w B v ms) : ∃ a cap, v = .slice a ms.length cap := by
  obtain ⟨_, h | ⟨g, cap, cur, he, _⟩⟩ := h
  · exact ⟨none, 0, by rw [h.1, h.2]⟩
  · exact ⟨_, cap, he⟩
theorem OwnS.mono {w : World} {B B' : Nat} {v : Value} {ms : List (Nat × Nat)} (h : OwnS w B v ms) (hb : B' ≤ B) : OwnS w B' v ms := by
  obtain ⟨hl, h⟩ := h
  refine ⟨hl, ?_⟩
  rcases h with h | ⟨g, cap, cur, rfl, h1, hg, h2⟩
  · exact .inl h
  · exact .inr ⟨g, cap, cur, rfl, Nat.le_trans hb h1, hg, h2⟩
theorem OwnC.mono {w : World} {B B' : Nat} {v : Value} {ms : List Nat} (h : OwnC w B v ms) (hb : B' ≤ B) : OwnC w B' v ms := by
  obtain ⟨hl, h⟩ := h
  refine ⟨hl, ?_⟩
  rcases h with h | ⟨g, cap, cur, rfl, h1, hg, h2⟩
  · exact .inl h
  · exact .inr ⟨g, cap, cur, rfl, Nat.le_trans hb h1, hg, h2⟩
theorem OwnS.set {w : World} {B b : Nat} {v : Value} {ms : List (Nat × Nat)} (h : OwnS w B v ms) (hb : b < B) (i : Nat) (x : Value) : OwnS (w.setCell ⟨b, i, none⟩ x) B v ms :=
  h.kept fun g hg => blk_far (by have := (h.lt g hg).1; omega) i x
theorem OwnC.setl {w : World} {B b : Nat} {v : Value} {ms : List Nat} (h : OwnC w B v ms) (hb : b < B) (i : Nat) (x : Value) : OwnC (w.setCell ⟨b, i, none⟩ x) B v ms :=
  h.kept fun g hg => blk_far (by have := (h.lt g hg).1; omega) i x
theorem ownC_ne {w : World} {B x : Nat} {v : Value} {ms : List Nat} {cs : Array Value} (h : OwnC w B v ms) (hx : w.heap[x]? = some (.cells cs 65 (0, 0))) : some x ≠ v.ownBlock := by
  intro e
  obtain ⟨_, h | ⟨g', cap', cur, he, _, hgg, _⟩⟩ := h
  · rw [h.1] at e; simp [Value.ownBlock] at e
  · rw [he] at e
    simp [Value.ownBlock] at e
    subst e
    rw [hx] at hgg
    simp at hgg
theorem OwnC.set {w : World} {B b : Nat} {v : Value} {ms : List Nat} (h : OwnC w B v ms) (hb : some b ≠ v.ownBlock) (i : Nat) (x : Value) : OwnC (w.setCell ⟨b, i, none⟩ x) B v ms :=
  h.kept fun g hg => blk_far (fun e => hb (by rw [hg, e])) i x
theorem OwnC.slice {w : World} {B : Nat} {v : Value} {ms : List Nat} (h : OwnC w B v ms) : ∃ a cap, v = .slice a ms.length cap := by
  obtain ⟨_, h | ⟨g, cap, cur, he, _⟩⟩ := h
  · exact ⟨none, 0, by rw [h.1, h.2]⟩
  · exact ⟨_, cap, he⟩
set_option maxRecDepth 100000 in
set_option maxHeartbeats 1600000 in
theorem l07New_any (id n : Int) (w : World) : Calls Try.prog 50 #[.int .i64 id, .int .i64 n] w fun e w' => ∃ as8 cs8 ac cc l1 m1 e1 f1 us8 us, e = .returned (.agg #[.int .i64 id, .int .i64 n, .int .i64 0, .bool true, .slice as8 8 cs8, .slice ac 8 cc, .slice l1 0 e1, .slice m1 0 f1]) ∧ (OwnS w' w.heap.size (.slice as8 8 cs8) us8 ∧ us8.length = 8) ∧ (OwnC w' w.heap.size (.slice ac 8 cc) us ∧ us.length = 8) ∧ Below w.heap.size w w' := by
  obtain ⟨i0, hi0, hz0, hz1, hz2⟩ := info_parts infoC
  have A0 : Hid ((w.alloc (.cells #[.int .i64 0, .int .i64 0, .int .i64 0, .bool false, .slice none 0 0, .slice none 0 0, .slice none 0 0, .slice none 0 0] 65)).heap[w.heap.size]? = some (.cells #[.int .i64 0, .int .i64 0, .int .i64 0, .bool false, .slice none 0 0, .slice none 0 0, .slice none 0 0, .slice none 0 0] 65 (0, 0))) := blk_new _ _ _
  have B0 : Hid (Below w.heap.size w (w.alloc (.cells #[.int .i64 0, .int .i64 0, .int .i64 0, .bool false, .slice none 0 0, .slice none 0 0, .slice none 0 0, .slice none 0 0] 65))) := bel_new _ _
  go_enter Try.func50, Try.ntmps50
  go_wp2_with fail
  refine (l07Slots_any _).mono ?_
  rw [size_new]
  rintro e w1 ⟨vs, us8, rfl, r1, h8, b1⟩
  have a1 : w1.heap[w.heap.size]? = some (.cells #[.int .i64 0, .int .i64 0, .int .i64 0, .bool false, .slice none 0 0, .slice none 0 0, .slice none 0 0, .slice none 0 0] 65 (0, 0)) := (b1.block _ (by omega)).trans A0.out
  have l1 : w.heap.size < w1.heap.size := (Array.getElem?_eq_some_iff.1 a1).1
  have B1 : Hid (Below w.heap.size w w1) := B0.out.trans (b1.mono (by omega))
  obtain ⟨as8, cs8, rfl⟩ := OwnS.slice r1
  rw [h8] at r1 ⊢
  have R1 : Hid (OwnS w1 (w.heap.size + 1) (.slice as8 8 cs8) us8) := r1
  have H8 : Hid (us8.length = 8) := h8
  have bb : Below w1.heap.size w1 (((w1.alloc (.cells #[] 106)).alloc (.cells #[] 9)).alloc (.cells #[] 90)) := ((bel_new w1 _).alloc (by simp) _).alloc (by simp; omega) _
  have HB3 : Hid (Below w1.heap.size w1 ((((w1.alloc (.cells #[] 106)).alloc (.cells #[] 9)).alloc (.cells #[] 90)).alloc (.cells #[.int .i64 id, .int .i64 n, .int .i64 0, .bool true, .slice as8 8 cs8, .slice (some ⟨w1.heap.size, 0, none⟩) 0 0, .slice (some ⟨w1.heap.size + 1, 0, none⟩) 0 0, .slice (some ⟨w1.heap.size + 1 + 1, 0, none⟩) 0 0] 65))) := bb.alloc bb.size _
  have HO3 : Hid (OwnC ((((w1.alloc (.cells #[] 106)).alloc (.cells #[] 9)).alloc (.cells #[] 90)).alloc (.cells #[.int .i64 id, .int .i64 n, .int .i64 0, .bool true, .slice as8 8 cs8, .slice (some ⟨w1.heap.size, 0, none⟩) 0 0, .slice (some ⟨w1.heap.size + 1, 0, none⟩) 0 0, .slice (some ⟨w1.heap.size + 1 + 1, 0, none⟩) 0 0] 65)) w1.heap.size (.slice (some ⟨w1.heap.size, 0, none⟩) 0 0) []) := (((OwnC.made w1 w1.heap.size (Nat.le_refl _)).alloc _).alloc _).alloc _
  have HX3 : Hid (((((w1.alloc (.cells #[] 106)).alloc (.cells #[] 9)).alloc (.cells #[] 90)).alloc (.cells #[.int .i64 id, .int .i64 n, .int .i64 0, .bool true, .slice as8 8 cs8, .slice (some ⟨w1.heap.size, 0, none⟩) 0 0, .slice (some ⟨w1.heap.size + 1, 0, none⟩) 0 0, .slice (some ⟨w1.heap.size + 1 + 1, 0, none⟩) 0 0] 65)).heap[w1.heap.size + 1 + 1 + 1]? = some (.cells #[.int .i64 id, .int .i64 n, .int .i64 0, .bool true, .slice as8 8 cs8, .slice (some ⟨w1.heap.size, 0, none⟩) 0 0, .slice (some ⟨w1.heap.size + 1, 0, none⟩) 0 0, .slice (some ⟨w1.heap.size + 1 + 1, 0, none⟩) 0 0] 65 (0, 0))) := by
    have := blk_new (((w1.alloc (.cells #[] 106)).alloc (.cells #[] 9)).alloc (.cells #[] 90)) #[.int .i64 id, .int .i64 n, .int .i64 0, .bool true, .slice as8 8 cs8, .slice (some ⟨w1.heap.size, 0, none⟩) 0 0, .slice (some ⟨w1.heap.size + 1, 0, none⟩) 0 0, .slice (some ⟨w1.heap.size + 1 + 1, 0, none⟩) 0 0] 65
    rw [size_new, size_new, size_new] at this
    exact this
  have A1 : Hid (w1.heap[w.heap.size]? = some (.cells #[.int .i64 0, .int .i64 0, .int .i64 0, .bool false, .slice none 0 0, .slice none 0 0, .slice none 0 0, .slice none 0 0] 65 (0, 0))) := a1
  clear b1 a1 r1 A0 B0 bb h8
  have hxg : w1.heap.size ≤ w1.heap.size + 1 + 1 + 1 := by omega
  go_upto_region 2 with fail
  generalize (((w1.alloc (.cells #[] 106)).alloc (.cells #[] 9)).alloc (.cells #[] 90)).alloc (.cells #[.int .i64 id, .int .i64 n, .int .i64 0, .bool true, .slice as8 8 cs8, .slice (some ⟨w1.heap.size, 0, none⟩) 0 0, .slice (some ⟨w1.heap.size + 1, 0, none⟩) 0 0, .slice (some ⟨w1.heap.size + 1 + 1, 0, none⟩) 0 0] 65) = w3 at HB3 HO3 HX3 ⊢
  generalize w1.heap.size + 1 + 1 + 1 = x at HX3 hxg ⊢
  generalize w1.heap.size + 1 + 1 = g7 at HX3 ⊢
  generalize w1.heap.size + 1 = g6 at HX3 ⊢
  go_wp2_with fail
  go_loopw [6] (fun i wr => ∃ (j : Nat) (us : List Nat) (vc : Value), i = .int .i64 (j : Int) ∧ j ≤ 8 ∧ Hid (wr.heap[x]? = some (.cells #[.int .i64 id, .int .i64 n, .int .i64 0, .bool true, .slice as8 8 cs8, vc, .slice (some ⟨g6, 0, none⟩) 0 0, .slice (some ⟨g7, 0, none⟩) 0 0] 65 (0, 0))) ∧ Hid (OwnC wr w1.heap.size vc us) ∧ Hid (us.length = j) ∧ Hid (Below w1.heap.size w1 wr)) (fun i _ => 8 - (intOf i).toNat)
  case atStart => exact ⟨0, [], _, rfl, by omega, HX3, HO3, rfl, HB3⟩
  case round =>
    clear HX3 HO3 HB3
    obtain ⟨j, us, vc, rfl, hj, HX, HO, HL, HB⟩ := hrel
    obtain ⟨ac, cc, rfl⟩ := OwnC.slice HO.out
    by_cases hlt : j < 8
    · have hlt' : (j : Int) < 8 := by omega
      have hul : us.length ≤ 1000000 := by rw [HL.out]; omega
      have oo : OwnC (wr.alloc (.cells #[] 90)) w1.heap.size (.slice ac us.length cc) us := HO.out.alloc _
      have bb : Below w1.heap.size w1 (wr.alloc (.cells #[] 90)) := HB.out.alloc HB.out.size _
      have hxl := (Array.getElem?_eq_some_iff.1 HX.out).1
      have xx : (wr.alloc (.cells #[] 90)).heap[x]? = some (.cells #[.int .i64 id, .int .i64 n, .int .i64 0, .bool true, .slice as8 8 cs8, .slice ac us.length cc, .slice (some ⟨g6, 0, none⟩) 0 0, .slice (some ⟨g7, 0, none⟩) 0 0] 65 (0, 0)) := (Below.heap_alloc _ _ _ hxl).trans HX.out
      have HXX : Hid (x < (wr.alloc (.cells #[] 90)).heap.size ∧ some x ≠ (Value.slice ac us.length cc).ownBlock ∧ (wr.alloc (.cells #[] 90)).heap[x]? = some (.cells #[.int .i64 id, .int .i64 n, .int .i64 0, .bool true, .slice as8 8 cs8, .slice ac us.length cc, .slice (some ⟨g6, 0, none⟩) 0 0, .slice (some ⟨g7, 0, none⟩) 0 0] 65 (0, 0))) := ⟨by rw [size_new]; omega, ownC_ne oo xx, xx⟩
      have c5 := (blk_cell HX.out 5 (x := .slice ac us.length cc) rfl).1
      clear xx HX HO HB
      go_wp2_with (at_builtin; go_must (refine listC (by rfl) _ _ 62 (by rfl) i0 Try.underlying62 hi0 hz0 hz1 hz2 w1.heap.size w1 _ _ us wr.heap.size (by rfl) oo bb bb.size _ (by rfl) (by simp) hul ?_; intro v4 w4 o4 b4 k4; obtain ⟨a4, c4, rfl⟩ := OwnC.slice o4; have hx4 := (k4 x HXX.out.1 HXX.out.2.1).1.trans HXX.out.2.2; obtain ⟨s5, f5⟩ := blk_cell hx4 5 (x := .slice ac us.length cc) rfl))
      all_goals
        rw [show (us ++ [wr.heap.size]).length = us.length + 1 by simp] at o4
        have hx5 := blk_set hx4 5 (.slice a4 (us.length + 1) c4)
        have ho5 := OwnC.set o4 (ownC_ne o4 hx4) 5 (.slice a4 (us.length + 1) c4)
        have hb5 := Below.setCell b4 (p := ⟨x, 5, none⟩) hxg (.slice a4 (us.length + 1) c4)
        exact ⟨⟨j + 1, us ++ [wr.heap.size], _, by go_num, by omega, hx5, ho5, (by show _ = _; rw [List.length_append, HL.out]; rfl), hb5⟩, by simp [intOf]; omega⟩
    · obtain rfl : j = 8 := by omega
      have HRC : Hid (OwnC wr w1.heap.size (.slice ac us.length cc) us) := HO.out
      have HRS : Hid (OwnS wr (w.heap.size + 1) (.slice as8 8 cs8) us8) := R1.out.below HB.out
      have AZ : Hid (wr.heap[w.heap.size]? = some (.cells #[.int .i64 0, .int .i64 0, .int .i64 0, .bool false, .slice none 0 0, .slice none 0 0, .slice none 0 0, .slice none 0 0] 65 (0, 0))) := (HB.out.block _ l1).trans A1.out
      have BZ : Hid (Below w.heap.size w wr) := B1.out.trans (HB.out.mono (Nat.le_of_lt l1))
      have hxw : x ≠ w.heap.size := by omega
      clear HO HB R1 A1 B1
      go_upto_region 6 with fail
      obtain ⟨ca0, fa0⟩ := blk_cell AZ.out 0 (x := .int .i64 0) rfl
      have cb0 := (blk_cell HX.out 0 (x := .int .i64 id) rfl).1
      obtain ⟨ca1, fa1⟩ := blk_cell AZ.out 1 (x := .int .i64 0) rfl
      have cb1 := (blk_cell HX.out 1 (x := .int .i64 n) rfl).1
      obtain ⟨ca2, fa2⟩ := blk_cell AZ.out 2 (x := .int .i64 0) rfl
      have cb2 := (blk_cell HX.out 2 (x := .int .i64 0) rfl).1
      obtain ⟨ca3, fa3⟩ := blk_cell AZ.out 3 (x := .bool false) rfl
      have cb3 := (blk_cell HX.out 3 (x := .bool true) rfl).1
      obtain ⟨ca4, fa4⟩ := blk_cell AZ.out 4 (x := .slice none 0 0) rfl
      have cb4 := (blk_cell HX.out 4 (x := .slice as8 8 cs8) rfl).1
      obtain ⟨ca5, fa5⟩ := blk_cell AZ.out 5 (x := .slice none 0 0) rfl
      have cb5 := (blk_cell HX.out 5 (x := .slice ac us.length cc) rfl).1
      obtain ⟨ca6, fa6⟩ := blk_cell AZ.out 6 (x := .slice none 0 0) rfl
      have cb6 := (blk_cell HX.out 6 (x := .slice (some ⟨g6, 0, none⟩) 0 0) rfl).1
      obtain ⟨ca7, fa7⟩ := blk_cell AZ.out 7 (x := .slice none 0 0) rfl
      have cb7 := (blk_cell HX.out 7 (x := .slice (some ⟨g7, 0, none⟩) 0 0) rfl).1
      have AF : (((((((((wr.setCell ⟨w.heap.size, 0, none⟩ (.int .i64 id)).setCell ⟨w.heap.size, 1, none⟩ (.int .i64 n)).setCell ⟨w.heap.size, 2, none⟩ (.int .i64 0)).setCell ⟨w.heap.size, 3, none⟩ (.bool true)).setCell ⟨w.heap.size, 4, none⟩ (.slice as8 8 cs8)).setCell ⟨w.heap.size, 5, none⟩ (.slice ac us.length cc)).setCell ⟨w.heap.size, 6, none⟩ (.slice (some ⟨g6, 0, none⟩) 0 0)).setCell ⟨w.heap.size, 7, none⟩ (.slice (some ⟨g7, 0, none⟩) 0 0))).heap[w.heap.size]? = some (.cells #[.int .i64 id, .int .i64 n, .int .i64 0, .bool true, .slice as8 8 cs8, .slice ac us.length cc, .slice (some ⟨g6, 0, none⟩) 0 0, .slice (some ⟨g7, 0, none⟩) 0 0] 65 (0, 0)) := (blk_set (blk_set (blk_set (blk_set (blk_set (blk_set (blk_set (blk_set AZ.out 0 (.int .i64 id)) 1 (.int .i64 n)) 2 (.int .i64 0)) 3 (.bool true)) 4 (.slice as8 8 cs8)) 5 (.slice ac us.length cc)) 6 (.slice (some ⟨g6, 0, none⟩) 0 0)) 7 (.slice (some ⟨g7, 0, none⟩) 0 0))
      have BF : Hid (Below w.heap.size w ((((((((wr.setCell ⟨w.heap.size, 0, none⟩ (.int .i64 id)).setCell ⟨w.heap.size, 1, none⟩ (.int .i64 n)).setCell ⟨w.heap.size, 2, none⟩ (.int .i64 0)).setCell ⟨w.heap.size, 3, none⟩ (.bool true)).setCell ⟨w.heap.size, 4, none⟩ (.slice as8 8 cs8)).setCell ⟨w.heap.size, 5, none⟩ (.slice ac us.length cc)).setCell ⟨w.heap.size, 6, none⟩ (.slice (some ⟨g6, 0, none⟩) 0 0)).setCell ⟨w.heap.size, 7, none⟩ (.slice (some ⟨g7, 0, none⟩) 0 0))) := (Below.setCell (Below.setCell (Below.setCell (Below.setCell (Below.setCell (Below.setCell (Below.setCell (Below.setCell BZ.out (p := ⟨w.heap.size, 0, none⟩) (Nat.le_refl _) (.int .i64 id)) (p := ⟨w.heap.size, 1, none⟩) (Nat.le_refl _) (.int .i64 n)) (p := ⟨w.heap.size, 2, none⟩) (Nat.le_refl _) (.int .i64 0)) (p := ⟨w.heap.size, 3, none⟩) (Nat.le_refl _) (.bool true)) (p := ⟨w.heap.size, 4, none⟩) (Nat.le_refl _) (.slice as8 8 cs8)) (p := ⟨w.heap.size, 5, none⟩) (Nat.le_refl _) (.slice ac us.length cc)) (p := ⟨w.heap.size, 6, none⟩) (Nat.le_refl _) (.slice (some ⟨g6, 0, none⟩) 0 0)) (p := ⟨w.heap.size, 7, none⟩) (Nat.le_refl _) (.slice (some ⟨g7, 0, none⟩) 0 0))
      have SF : Hid (OwnS ((((((((wr.setCell ⟨w.heap.size, 0, none⟩ (.int .i64 id)).setCell ⟨w.heap.size, 1, none⟩ (.int .i64 n)).setCell ⟨w.heap.size, 2, none⟩ (.int .i64 0)).setCell ⟨w.heap.size, 3, none⟩ (.bool true)).setCell ⟨w.heap.size, 4, none⟩ (.slice as8 8 cs8)).setCell ⟨w.heap.size, 5, none⟩ (.slice ac us.length cc)).setCell ⟨w.heap.size, 6, none⟩ (.slice (some ⟨g6, 0, none⟩) 0 0)).setCell ⟨w.heap.size, 7, none⟩ (.slice (some ⟨g7, 0, none⟩) 0 0)) (w.heap.size + 1) (.slice as8 8 cs8) us8 ∧ OwnC ((((((((wr.setCell ⟨w.heap.size, 0, none⟩ (.int .i64 id)).setCell ⟨w.heap.size, 1, none⟩ (.int .i64 n)).setCell ⟨w.heap.size, 2, none⟩ (.int .i64 0)).setCell ⟨w.heap.size, 3, none⟩ (.bool true)).setCell ⟨w.heap.size, 4, none⟩ (.slice as8 8 cs8)).setCell ⟨w.heap.size, 5, none⟩ (.slice ac us.length cc)).setCell ⟨w.heap.size, 6, none⟩ (.slice (some ⟨g6, 0, none⟩) 0 0)).setCell ⟨w.heap.size, 7, none⟩ (.slice (some ⟨g7, 0, none⟩) 0 0)) w1.heap.size (.slice ac us.length cc) us) := ⟨(OwnS.set (OwnS.set (OwnS.set (OwnS.set (OwnS.set (OwnS.set (OwnS.set (OwnS.set HRS.out (by omega) 0 (.int .i64 id)) (by omega) 1 (.int .i64 n)) (by omega) 2 (.int .i64 0)) (by omega) 3 (.bool true)) (by omega) 4 (.slice as8 8 cs8)) (by omega) 5 (.slice ac us.length cc)) (by omega) 6 (.slice (some ⟨g6, 0, none⟩) 0 0)) (by omega) 7 (.slice (some ⟨g7, 0, none⟩) 0 0)), (OwnC.setl (OwnC.setl (OwnC.setl (OwnC.setl (OwnC.setl (OwnC.setl (OwnC.setl (OwnC.setl HRC.out l1 0 (.int .i64 id)) l1 1 (.int .i64 n)) l1 2 (.int .i64 0)) l1 3 (.bool true)) l1 4 (.slice as8 8 cs8)) l1 5 (.slice ac us.length cc)) l1 6 (.slice (some ⟨g6, 0, none⟩) 0 0)) l1 7 (.slice (some ⟨g7, 0, none⟩) 0 0))⟩
      go_wp2_with fail
      generalize ((((((((wr.setCell ⟨w.heap.size, 0, none⟩ (.int .i64 id)).setCell ⟨w.heap.size, 1, none⟩ (.int .i64 n)).setCell ⟨w.heap.size, 2, none⟩ (.int .i64 0)).setCell ⟨w.heap.size, 3, none⟩ (.bool true)).setCell ⟨w.heap.size, 4, none⟩ (.slice as8 8 cs8)).setCell ⟨w.heap.size, 5, none⟩ (.slice ac us.length cc)).setCell ⟨w.heap.size, 6, none⟩ (.slice (some ⟨g6, 0, none⟩) 0 0)).setCell ⟨w.heap.size, 7, none⟩ (.slice (some ⟨g7, 0, none⟩) 0 0)) = wf at AF BF SF ⊢
      have d0 := (blk_cell AF 0 (x := .int .i64 id) rfl).1
      have d1 := (blk_cell AF 1 (x := .int .i64 n) rfl).1
      have d2 := (blk_cell AF 2 (x := .int .i64 0) rfl).1
      have d3 := (blk_cell AF 3 (x := .bool true) rfl).1
      have d4 := (blk_cell AF 4 (x := .slice as8 8 cs8) rfl).1
      have d5 := (blk_cell AF 5 (x := .slice ac us.length cc) rfl).1
      have d6 := (blk_cell AF 6 (x := .slice (some ⟨g6, 0, none⟩) 0 0) rfl).1
      have d7 := (blk_cell AF 7 (x := .slice (some ⟨g7, 0, none⟩) 0 0) rfl).1
      exact bodyPost_ret (v := .agg #[.int .i64 id, .int .i64 n, .int .i64 0, .bool true, .slice as8 8 cs8, .slice ac us.length cc, .slice (some ⟨g6, 0, none⟩) 0 0, .slice (some ⟨g7, 0, none⟩) 0 0]) (by simp [results, Try.results50, go_sem, d0, d1, d2, d3, d4, d5, d6, d7]) rfl ⟨as8, cs8, ac, cc, _, _, _, _, us8, us, by rw [HL.out], ⟨OwnS.mono SF.out.1 (by omega), H8.out⟩, ⟨by rw [← HL.out]; exact OwnC.mono SF.out.2 (Nat.le_of_lt l1), HL.out⟩, BF.out⟩

/-- Whether there is such a node. -/
def okR (id n : Int) : Bool := decide (fCode n = 0) && Qm.inB id 0 (n - 1)
theorem f_in {n : Int} (h : fCode n = 0) : 1 ≤ n ∧ n ≤ 7 := by
  rcases f_cases n with rfl | rfl | rfl | ⟨_, _, _, _, hc⟩
  · decide
  · decide
  · decide
  · rw [hc] at h; cases h
set_option maxRecDepth 100000 in
set_option maxHeartbeats 800000 in
theorem isNodeOf_any (id n : Int) (w : World) : Calls Try.prog 52 #[.int .i64 n, .int .i64 id] w fun e w' => e = .returned (.bool (okR id n)) ∧ w = w' := by
  by_cases h : fCode n = 0
  · have hb := f_in h
    have HO : Hid (okR id n = Qm.inB id 0 (n - 1)) := by show _ = _; unfold okR; rw [decide_eq_true h]; rfl
    rw [HO.out]
    have HF := implFaultsOf_any n w
    rw [h] at HF
    clear h
    go_enter Try.func52, Try.ntmps52
    go_wp2_with fail
    refine HF.mono ?_
    rintro e w1 ⟨rfl, hw⟩
    rw [hw]
    clear hw
    go_wp2_with fail
    refine (Qm.within_any id 0 (n - 1) w).mono ?_
    rintro e w2 ⟨rfl, rfl⟩
    go_wp2_with fail
    go_ret
    exact ⟨by simp, rfl⟩
  · have HO : Hid (okR id n = false) := by show _ = _; unfold okR; rw [decide_eq_false h]; rfl
    rw [HO.out]
    have h4 : fCode n = 4 := by
      unfold fCode at h ⊢
      split
      · rename_i hq; rw [if_pos hq] at h; exact absurd rfl h
      · rfl
    have HF := implFaultsOf_any n w
    rw [h4] at HF
    clear h h4
    go_enter Try.func52, Try.ntmps52
    go_wp2_with fail
    refine HF.mono ?_
    rintro e w1 ⟨rfl, hw⟩
    rw [hw]
    clear hw
    go_wp2_with fail
    go_ret
    exact ⟨rfl, rfl⟩

end Go.Proofs.Ytdhmmbbdckahmaa.Nr
