/- Texts put together: ShaA, ShaL, Fu. -/
import Derived.Test.YtkfiahemgdppfaaGreatDoorP10
import Derived.Deep.Upon
import Derived.Maps.AppendAt
import Derived.BigRegion
import Derived.Test.YtkfiahemgdppfaaGreatDoorP6
import Derived.Lib.SlBytesConst
/- Words for the specification's l01Hash: what it appends, and what it reads again. -/
namespace Go.Proofs.YtkfiahemgdppfaaGreatDoor.Sh
open Go.RowKit Go.Proofs.YtkfiahemgdppfaaGreatDoor.Sl Go.Proofs.YtkfiahemgdppfaaGreatDoor.Me

/-- 'append(v, u...)' of bytes that are only read onto a slice of the call's own. -/
theorem wpList_append_rowB {P : Program} {ops : Array Oper} {rest : List Oper} {o : Oper} {a : Act} {Q : Exit → Act → World → Prop} (hgd : o.guard = none) (s x : Operand) (t : TypeId)
    (ho : o.op = .call { callee := .builtin .append, args := #[s, x], argTypes := #[t, t] }) (e : TypeId) (i : TypeInfo) (ht : P.underlying t = some (.slice e)) (hi : P.info? e = some i) (hz : i.zero = some (.int .u8 0))
    (hsize : i.size = 1) (hby : i.bytes = 1) (B : Nat) (w0 W : World) (v u : Value) (zs xs : List Int) (hs : a.eval s = v) (hown : By.OwnB e W B v zs) (hbel : Below B w0 W) (hB : B ≤ W.heap.size)
    (hx : a.eval x = u) (hu : RowB W u xs) (hlen : zs.length + xs.length ≤ 140737488355328)
    (h : ∀ v' w', By.OwnB e w' B v' (zs ++ xs) → Below B w0 w' → B ≤ w'.heap.size → wpList P ops Q rest (a.put o.dst v') w') : wpList P ops Q (o :: rest) a W := by
  obtain ⟨ad, cap, rfl, hc, _⟩ := hu
  have hown2 := hown
  unfold By.OwnB at hown2
  cases ad with
  | none =>
    obtain rfl : xs = [] := by
      rcases hc with h | ⟨_, _, h, _⟩
      · exact h
      · cases h
    have hr : (Builtin.append_ #[t, t] o.type #[v, .slice none 0 cap]).run P W = .ok v W := by
      rcases hown2.2 with ⟨rfl, _⟩ | ⟨g, c, cur, rfl, _, _, hn, _⟩
      · exact run_append_nothing W t t o.type e i ht hi none 0 0 (Nat.le_refl _) _ (Src.ofNil W ht cap)
      · exact run_append_nothing W t t o.type e i ht hi _ _ _ hn _ (Src.ofNil W ht cap)
    refine wpList_plain hgd fun K hK => ?_
    unfold Oper.wp execOp
    simp only [ho, resolve, invoke, builtin, Sem.run_bind, Sem.run_pure, Result.andThen_ok, List.map_toArray, List.map_cons, List.map_nil, hs, hx, List.length_nil, hr]
    exact hK _ _ (h v W (by simpa using hown) hbel hB)
  | some ad =>
    refine wpList_append_own _ hgd s x t ho B e i (.int .u8 0) 1 1 ht hi hz hsize hby rfl (by decide) v zs.length _ hs hown2 ad xs.length cap (xs.map (Value.int .u8)) hx (by simp) ?_ ?_ ?_ ?_ hB ?_
    · intro j y hy
      rcases hc with rfl | ⟨b, off, e1, _, hb, hcell⟩
      · simp at hy
      · cases e1
        have hj : j < xs.length := by have := (List.getElem?_eq_some_iff.1 hy).1; simpa using this
        rw [addr_add, hcell j hj, ← hy, List.getElem?_map, List.getElem?_eq_getElem hj]
        unfold nth
        rw [List.getD_eq_getElem?_getD, List.getElem?_eq_getElem hj]
        rfl
    · intro y hy
      obtain ⟨z, _, rfl⟩ := List.mem_map.1 hy
      rfl
    · unfold maxLen; omega
    · omega
    · intro v' w' h1 h2 _
      refine h v' w' (by unfold By.OwnB; simpa using h1) (hbel.grown h2 hB (fun k hk => (hown2.lt k hk).1)) ?_
      have := h2.size
      omega

/-- 'append(v, a, b, c, d)' onto a slice of the call's own. -/
theorem wpList_append_four {P : Program} {ops : Array Oper} {rest : List Oper} {o : Oper} {a : Act} {Q : Exit → Act → World → Prop} (hgd : o.guard = none) (s x : Operand) (t : TypeId)
    (ho : o.op = .call { callee := .builtin .append, args := #[s, x], argTypes := #[t, t] }) (e : TypeId) (i : TypeInfo) (ht : P.underlying t = some (.slice e)) (hi : P.info? e = some i) (hz : i.zero = some (.int .u8 0))
    (hsize : i.size = 1) (hby : i.bytes = 1) (B : Nat) (w0 W : World) (v : Value) (zs : List Int) (z0 z1 z2 z3 : Int) (hs : a.eval s = v) (hown : By.OwnB e W B v zs) (hbel : Below B w0 W) (hB : B ≤ W.heap.size)
    (hx : a.eval x = .slice (some ⟨W.heap.size, 0, none⟩) 4 4) (hlen : zs.length + 4 ≤ 140737488355328)
    (h : ∀ v' w', By.OwnB e w' B v' (zs ++ [z0, z1, z2, z3]) → Below B w0 w' → B ≤ w'.heap.size → wpList P ops Q rest (a.put o.dst v') w') : wpList P ops Q (o :: rest) a (W.alloc (.cells #[.int .u8 z0, .int .u8 z1, .int .u8 z2, .int .u8 z3] e)) := by
  refine wpList_append_own _ hgd s x t ho B e i (.int .u8 0) 1 1 ht hi hz hsize hby rfl (by decide) v zs.length _ hs (hown.alloc _) ⟨W.heap.size, 0, none⟩ 4 4 [.int .u8 z0, .int .u8 z1, .int .u8 z2, .int .u8 z3] hx rfl ?_ ?_ ?_ ?_ ?_ ?_
  · exact World.news_of_block (cs := #[.int .u8 z0, .int .u8 z1, .int .u8 z2, .int .u8 z3]) (t := e) (fr := (0, 0)) (heap_alloc_new W _)
  · simp [Value.oneCell']
  · unfold maxLen; omega
  · omega
  · simp; omega
  · intro v' w' h1 h2 _
    refine h v' w' (by unfold By.OwnB; simpa using h1) (By.below_own _ hown hbel hB h2) ?_
    have := h2.size
    simp at this
    omega

/-- The like at a step of a region that draws its order: behind the draw. -/
theorem step_append_four {P : Program} {ops : Array Oper} {o : Oper} {a : Act} {K : Act → World → Prop} {Q : Exit → Act → World → Prop} {E : Prop} (hgd : o.guard = none) (s x : Operand) (t : TypeId)
    (ho : o.op = .call { callee := .builtin .append, args := #[s, x], argTypes := #[t, t] }) (e : TypeId) (i : TypeInfo) (ht : P.underlying t = some (.slice e)) (hi : P.info? e = some i) (hz : i.zero = some (.int .u8 0))
    (hsize : i.size = 1) (hby : i.bytes = 1) (B : Nat) (w0 W : World) (v : Value) (zs : List Int) (z0 z1 z2 z3 : Int) (hs : a.eval s = v) (hown : By.OwnB e W B v zs) (hbel : Below B w0 W) (hB : B ≤ W.heap.size)
    (hx : a.eval x = .slice (some ⟨W.heap.size, 0, none⟩) 4 4) (hlen : zs.length + 4 ≤ 140737488355328)
    (h : ∀ v' w', By.OwnB e w' B v' (zs ++ [z0, z1, z2, z3]) → Below B w0 w' → B ≤ w'.heap.size → K (a.put o.dst v') w') :
    if Region.wanted o (yielded ops a.tmps) = true then Oper.wp P o a (W.alloc (.cells #[.int .u8 z0, .int .u8 z1, .int .u8 z2, .int .u8 z3] e)).drew K Q else E := by
  refine step_append_lies _ hgd s x t ho B e i (.int .u8 0) 1 1 ht hi hz hsize hby rfl (by decide) v zs.length _ hs ((hown.alloc _).drew) ⟨W.heap.size, 0, none⟩ 4 4 [.int .u8 z0, .int .u8 z1, .int .u8 z2, .int .u8 z3] hx rfl ?_ ?_ (by omega) ?_ ?_ ?_ (W.heap.size + 1) (by simp) ?_
  · exact World.news_of_block (cs := #[.int .u8 z0, .int .u8 z1, .int .u8 z2, .int .u8 z3]) (t := e) (fr := (0, 0)) (heap_alloc_new W _)
  · simp [Value.oneCell']
  · unfold maxLen; omega
  · omega
  · simp; omega
  · intro g cap w' h1 h2 _ _
    refine h _ w' (by unfold By.OwnB; simpa using h1) (By.below_own _ hown hbel hB ⟨h2.os, h2.tape, h2.output, h2.size, h2.block⟩) ?_
    have := h2.size
    simp at this
    omega

/-- What such a slice is. -/
theorem own_open {e : TypeId} {w : World} {B n : Nat} {v : Value} {zs : List Int} (h : By.OwnB e w B v zs) (hn : zs.length = n) :
    ∃ ad cap, v = .slice ad n cap ∧ (0 < n → ∃ g, ad = some ⟨g, 0, none⟩ ∧ B ≤ g ∧ g < w.heap.size ∧ n ≤ cap ∧ ∀ i, i < n → w.cell? ⟨g, i, none⟩ = some (.int .u8 (nth zs i))) := by
  unfold By.OwnB at h
  rw [hn] at h
  rcases h.2 with ⟨rfl, h0⟩ | ⟨g, cap, cur, rfl, hb, hg, hnc, _, _, htk⟩
  · exact ⟨none, 0, by rw [h0], fun h => by omega⟩
  · refine ⟨_, cap, rfl, fun _ => ⟨g, rfl, hb, (Array.getElem?_eq_some_iff.1 hg).1, hnc, fun i hi => ?_⟩⟩
    have h1 : (cur.toList.take (n * 1))[i]? = some (.int .u8 (nth zs i)) := by
      rw [htk, List.getElem?_map, List.getElem?_eq_getElem (by omega)]
      unfold nth
      rw [List.getD_eq_getElem?_getD, List.getElem?_eq_getElem (show i < zs.length by omega)]
      rfl
    rw [List.getElem?_take_of_lt (by omega), Array.getElem?_toList] at h1
    simp [World.cell?, hg, h1]

def midTo (xs : List Int) (k : Nat) : List Int := xs ++ [128] ++ List.replicate k 0
theorem midTo_length (xs : List Int) (k : Nat) : (midTo xs k).length = xs.length + 1 + k := by unfold midTo; simp; omega
theorem midTo_succ (xs : List Int) (k : Nat) : midTo xs (k + 1) = midTo xs k ++ [0] := by
  unfold midTo; rw [List.replicate_succ', ← List.append_assoc]
theorem midTo_zero (xs : List Int) : midTo xs 0 = xs ++ [128] := by unfold midTo; simp
def lenTo (n k : Nat) : List Int := (lenBytes n).take k
theorem lenTo_length (n k : Nat) (h : k ≤ 8) : (lenTo n k).length = k := by
  unfold lenTo lenBytes; rw [List.length_take]; simp; omega
theorem lenTo_succ (n k : Nat) (h : k < 8) : lenTo n (k + 1) = lenTo n k ++ [lenByte n k] := by
  match k, h with
  | 0, _ => rfl
  | 1, _ => rfl
  | 2, _ => rfl
  | 3, _ => rfl
  | 4, _ => rfl
  | 5, _ => rfl
  | 6, _ => rfl
  | 7, _ => rfl
theorem pad_eq (xs : List Int) : pad xs = midTo xs (zerosOf xs.length) ++ lenTo xs.length 8 := rfl
def padTo (xs : List Int) (k : Nat) : List Int := midTo xs (zerosOf xs.length) ++ lenTo xs.length k
theorem padTo_succ (xs : List Int) (k : Nat) (h : k < 8) : padTo xs (k + 1) = padTo xs k ++ [lenByte xs.length k] := by
  unfold padTo; rw [lenTo_succ _ _ h, List.append_assoc]
theorem padTo_length (xs : List Int) (k : Nat) (h : k ≤ 8) : (padTo xs k).length = xs.length + 1 + zerosOf xs.length + k := by
  unfold padTo; rw [List.length_append, midTo_length, lenTo_length _ _ h]
theorem padTo_zero (xs : List Int) : padTo xs 0 = midTo xs (zerosOf xs.length) := by unfold padTo lenTo; simp
/-- The length of a slice. -/
def lenV : Value → Nat
  | .slice _ n _ => n
  | _ => 0
theorem mid_done {n k : Nat} (h : (n + 1 + k) % 64 = 56) (hk : k ≤ zerosOf n) : k = zerosOf n := by unfold zerosOf at *; omega
theorem mid_end (n : Nat) : (n + 1 + zerosOf n) % 64 = 56 := by unfold zerosOf; omega

/-- 'all[i:i+64]'. -/
theorem slice64c (n c b q : Nat) (h : 64 * q + 64 ≤ n) (hc : n ≤ c) (W : World) :
    (Instr.slice 22 (.slice (some ⟨b, 0, none⟩) n c) (some (.int .i64 (64 * (q : Int)))) (some (.int .i64 (64 * (q : Int) + 64))) none).run Tryz.prog W = .ok (.slice (some ⟨b, 64 * q, none⟩) 64 (c - 64 * q)) W := by
  have := Lib.run_slice_window (P := Tryz.prog) W 22 5 Tryz.underlying22 size1 b 0 n c (64 * q) (64 * q + 64) (by omega) (by omega)
  rw [Nat.zero_add, show 64 * q + 64 - 64 * q = 64 by omega] at this
  rw [← this]
  rfl
theorem ArrAt.grown {w w' : World} {g : Nat} {T : TypeId} {A : Array Value} {row : Option Nat} (h : ArrAt w g T A) (hg : w.grownBy w' row) (hne : some g ≠ row) : ArrAt w' g T A := (hg.block g (ArrAt.lt h) hne).trans h
theorem len_byte (n k : Nat) (h : k < 8) : 8 * (n : Int) / 2 ^ (8 * (7 - k)) % 256 = lenByte n k := by
  have := len_eq n (7 - k) (by omega)
  rw [Int.mul_comm, this, show 7 - (7 - k) = k by omega]
end Go.Proofs.YtkfiahemgdppfaaGreatDoor.Sh

/- The specification's l01Hash and Hash. -/
namespace Go.Proofs.YtkfiahemgdppfaaGreatDoor.Sh
open Go.RowKit Go.Proofs.YtkfiahemgdppfaaGreatDoor.Sl Go.Proofs.YtkfiahemgdppfaaGreatDoor.Me

theorem lit8 : (#[.int .u32 1779033703, .int .u32 3144134277, .int .u32 1013904242, .int .u32 2773480762, .int .u32 1359893119, .int .u32 2600822924, .int .u32 528734635, .int .u32 1541459225] : Array Value) = arr8 r0 := rfl
/-- The world in which the state is laid. -/
def w8 (w : World) : World := w.alloc (.cells (arr8 r0) 186)
def w9 (w : World) : World := (w.alloc (.cells #[.int .u32 1779033703, .int .u32 3144134277, .int .u32 1013904242, .int .u32 2773480762, .int .u32 1359893119, .int .u32 2600822924, .int .u32 528734635, .int .u32 1541459225] 186)).alloc (.cells #[] 5)
/-- The start of the specification's Hash: its state is laid. -/
theorem start8 {w : World} {v : Value} {xs : List Int} (h : RowB w v xs) :
    (w8 w).heap.size = w.heap.size + 1 ∧ ArrAt (w8 w) w.heap.size 186 (arr8 r0) ∧ Below w.heap.size w (w8 w) ∧
    RowB (w9 w) v xs ∧ By.OwnB 5 (w9 w) (w.heap.size + 1) (.slice (some ⟨w.heap.size + 1, 0, none⟩) 0 0) [] ∧ Below (w.heap.size + 1) (w8 w) (w9 w) ∧ w.heap.size + 1 ≤ (w9 w).heap.size := by
  have b1 : Below w.heap.size w (w8 w) := (Below.refl _ _).alloc (Nat.le_refl _) _
  have hs : (w8 w).heap.size = w.heap.size + 1 := by simp [w8]
  have e9 : w9 w = (w8 w).alloc (.cells #[] 5) := by unfold w9 w8; rw [lit8]
  rw [e9]
  refine ⟨hs, arrAt_new w _ _, b1, (h.below b1).below ((Below.refl _ _).alloc (Nat.le_refl _) _), ?_, ?_, ?_⟩
  · rw [← hs]; exact By.own_made 5 (w8 w) _ #[] 0 (Nat.le_refl _) (by simp [maxLen]) rfl
  · rw [← hs]; exact (Below.refl _ _).alloc (Nat.le_refl _) _
  · simp; omega

theorem four_eq (x : UInt32) : [IntKind.u8.wrap (nat x / 16777216), IntKind.u8.wrap (nat x / 65536), IntKind.u8.wrap (nat x / 256), IntKind.u8.wrap (nat x)] = [byteOf x 0, byteOf x 1, byteOf x 2, byteOf x 3] := by
  simp [byteOf, IntKind.wrap_u8]

set_option maxRecDepth 100000 in
set_option maxHeartbeats 3200000 in
theorem l01Hash_any (vb : Value) (xs : List Int) (w : World) (h : RowB w vb xs) (hl : xs.length ≤ 65536) :
    Calls Tryz.prog 104 #[vb] w fun e w' => e = .returned (.string (strOfNums (sha xs))) ∧ Below w.heap.size w w' := by
  obtain ⟨i0, hi, hz0, hz1, hz2⟩ := info_parts info5
  have hl' : (xs.length : Int) ≤ 65536 := by omega
  have hst := start8 h
  obtain ⟨ab, capb, rfl, _, hr⟩ := h
  have HRG : Hid (∀ x ∈ xs, 0 ≤ x ∧ x ≤ 255) := hr
  obtain ⟨hsz, hx1, hb1, hre, how, hbe, hse⟩ := hst
  have HX1 : Hid (ArrAt (w8 w) w.heap.size 186 (arr8 r0)) := hx1
  have HB1 : Hid (Below w.heap.size w (w8 w)) := hb1
  have HRE : Hid (RowB (w9 w) (.slice ab xs.length capb) xs) := hre
  have HOW : Hid (By.OwnB 5 (w9 w) (w.heap.size + 1) (.slice (some ⟨w.heap.size + 1, 0, none⟩) 0 0) []) := how
  have HBE : Hid (Below (w.heap.size + 1) (w8 w) (w9 w)) := hbe
  have HSE : Hid (w.heap.size + 1 ≤ (w9 w).heap.size) := hse
  clear hr hsz hx1 hb1 hre how hbe hse
  go_enter Tryz.func104, Tryz.ntmps104
  go_wp2_with (at_builtin; first
    | (refine By.wpList_append_byte (by rfl) _ _ 22 (by rfl) 5 i0 Tryz.underlying22 hi hz0 hz1 hz2 (w.heap.size + 1) (w8 w) w2 _ _ _ (by rfl) hown2 hbel2 hB2 (by rfl) (by simp; omega) ?_; intro v3 w3 hown3 hbel3 hB3)
    | (refine wpList_append_rowB (by rfl) _ _ 22 (by rfl) 5 i0 Tryz.underlying22 hi hz0 hz1 hz2 (w.heap.size + 1) (w8 w) _ _ _ [] xs (by rfl) HOW.out HBE.out HSE.out (by rfl) HRE.out (by simp; omega) ?_; intro v2 w2 hown2 hbel2 hB2))
  have hown0 : By.OwnB 5 w3 (w.heap.size + 1) v3 (midTo xs 0) := by rw [midTo_zero]; exact hown3
  clear hown2 hbel2 hB2 hown3 HOW HBE HSE HRE
  go_loopw [4] (fun v wr => ∃ k : Nat, k ≤ zerosOf xs.length ∧ By.OwnB 5 wr (w.heap.size + 1) v (midTo xs k) ∧ Below (w.heap.size + 1) (w8 w) wr ∧ w.heap.size + 1 ≤ wr.heap.size) (fun v _ => xs.length + 1 + zerosOf xs.length - lenV v)
  case atStart => exact ⟨0, by omega, hown0, hbel3, hB3⟩
  case round =>
    clear hown0 hbel3 hB3
    obtain ⟨k, hk, hown, hbel, hB⟩ := hrel
    have hz64 : zerosOf xs.length < 64 := by unfold zerosOf; omega
    obtain ⟨m, hm⟩ : ∃ m, m = xs.length + 1 + k := ⟨_, rfl⟩
    have hml : (midTo xs k).length = m := by rw [midTo_length, hm]
    have HM : Hid (m = xs.length + 1 + k) := hm
    obtain ⟨ad, cap, rfl, _⟩ := own_open hown hml
    have hmb : m ≤ 65700 := by omega
    by_cases hd : m % 64 = 56
    · obtain rfl : k = zerosOf xs.length := mid_done (by rw [← hm]; exact hd) hk
      have hd' : (m : Int) % 64 = 56 := by omega
      have hown1 : By.OwnB 5 wr (w.heap.size + 1) (.slice ad m cap) (padTo xs 0) := by rw [padTo_zero]; exact hown
      clear hown hm hml
      go_wp2_with fail
      go_loopw [4, 5] (fun v i wr => ∃ k : Nat, k ≤ 8 ∧ i = .int .i64 (7 - (k : Int)) ∧ By.OwnB 5 wr (w.heap.size + 1) v (padTo xs k) ∧ Below (w.heap.size + 1) (w8 w) wr ∧ w.heap.size + 1 ≤ wr.heap.size) (fun _ i _ => (intOf i + 1).toNat)
      case atStart => exact ⟨0, by omega, rfl, hown1, hbel, hB⟩
      case round =>
        clear hown1 hbel hB hd hd' hk hmb
        obtain ⟨k, hk, rfl, hown, hbel, hB⟩ := hrel
        have hpl := padTo_length xs k hk
        by_cases hlt : k < 8
        · have hpos : (0 : Int) ≤ 7 - (k : Int) := by omega
          have hl2 : (padTo xs k).length + 1 ≤ 140737488355328 := by omega
          have HPS : Hid (padTo xs (k + 1) = padTo xs k ++ [lenByte xs.length k]) := padTo_succ xs k hlt
          clear hpl
          go_wp2_with (at_builtin; refine By.wpList_append_byte (by rfl) _ _ 22 (by rfl) 5 i0 Tryz.underlying22 hi hz0 hz1 hz2 (w.heap.size + 1) (w8 w) wr _ _ _ (by rfl) hown hbel hB (by rfl) hl2 ?_; intro v' w' hown' hbel' hB')
          exact ⟨⟨k + 1, by omega, by go_num, by rw [HPS.out, ← len_byte _ _ hlt]; exact hown', hbel', hB'⟩, by simp [intOf]; omega⟩
        · obtain rfl : k = 8 := by omega
          obtain ⟨Q, hQ⟩ : ∃ Q, Q = (xs.length + 72) / 64 := ⟨_, rfl⟩
          have HSHA : Hid (sha xs = out (blksTo (pad xs) Q)) := by show sha xs = _; rw [hQ]; rfl
          have HPR : Hid (∀ x ∈ pad xs, 0 ≤ x ∧ x ≤ 255) := pad_range HRG.out
          obtain ⟨N, hN⟩ : ∃ N, N = 64 * Q := ⟨_, rfl⟩
          have hpn : (pad xs).length = N := by rw [hN, hQ]; exact pad_blocks xs
          have hQ1 : 0 < Q := by omega
          have hQ2 : Q ≤ 1026 := by omega
          have hown8 : By.OwnB 5 wr (w.heap.size + 1) u4 (pad xs) := hown
          clear hown hpl hQ
          generalize pad xs = ps at HSHA HPR hpn hown8
          obtain ⟨ad, cap, rfl, hcs⟩ := own_open hown8 hpn
          obtain ⟨gp, rfl, hgp, hgplt, hcap, hcells⟩ := hcs (by omega)
          have hXr := HX1.out.below hbel (by omega)
          have hXc := hXr.alloc (.cells kArr 186)
          have hKc := arrAt_new wr 186 kArr
          have hbc : Below w.heap.size w (wr.alloc (.cells kArr 186)) := (HB1.out.trans (hbel.mono (by omega))).alloc (by omega) _
          have hcc : ∀ i, i < N → (wr.alloc (.cells kArr 186)).cell? ⟨gp, i, none⟩ = some (.int .u8 (nth ps i)) := fun i hi => by rw [World.cell?_alloc_past _ _ _ hgplt]; exact hcells i hi
          have hgpc : gp < (wr.alloc (.cells kArr 186)).heap.size := by simp; omega
          have HXC : Hid _ := hXc
          have HKC : Hid _ := hKc
          have HBC : Hid _ := hbc
          have HCC : Hid _ := hcc
          have HGP : Hid _ := hgpc
          have HPN : Hid _ := hpn
          clear hXr hXc hKc hbc hcc hgpc hcells hcs hown8 hpn hbel
          go_wp2_with fail
          refine (l01Consts_any _).mono ?_
          rintro e wc ⟨rfl, rfl⟩
          generalize wr.alloc (.cells kArr 186) = wc at HXC HKC HBC HCC HGP ⊢
          generalize wr.heap.size = gk at HKC hB hgplt ⊢
          have hM0 : (N : Int) ≤ 64 * (Q : Int) := by omega
          have hM1 : 64 * (Q : Int) ≤ (N : Int) := by omega
          go_wp2_with fail
          go_loopw [7] (fun i wq => ∃ q : Nat, q ≤ Q ∧ i = .int .i64 (64 * (q : Int)) ∧ wc.grownBy wq (some w.heap.size) ∧ ArrAt wq w.heap.size 186 (arr8 (blksTo ps q))) (fun i _ => 64 * Q - (intOf i).toNat)
          case atStart => exact ⟨0, by omega, rfl, ⟨rfl, rfl, rfl, Nat.le_refl _, fun _ _ _ => rfl⟩, HXC.out⟩
          case round =>
            obtain ⟨q, hq, rfl, hgr, hX⟩ := hrel
            have HB : Hid (blksTo ps (q + 1) = blk (blksTo ps q) (cut ps q)) := rfl
            by_cases hlt : q < Q
            · have p0 : (0 : Int) ≤ 64 * (q : Int) := by omega
              have p1 : 64 * (q : Int) + 64 ≤ (N : Int) := by omega
              have p2 : 64 * (q : Int) ≤ 64 * (q : Int) + 64 := by omega
              generalize blksTo ps q = r at hX HB
              have HCR : Hid (RowB wr (.slice (some ⟨gp, 64 * q, none⟩) 64 (cap - 64 * q)) (cut ps q) ∧ (cut ps q).length = 64) := by
                have hne : some gp ≠ some w.heap.size := by intro e; cases e; omega
                have := cut_row (w := wr) (ps := ps) (b := gp) (off := 0) (Nat.lt_of_lt_of_le HGP.out hgr.size) (fun i hi => by rw [Nat.zero_add]; exact (hgr.cell_far ⟨gp, i, none⟩ HGP.out hne).trans (HCC.out i (by rw [← HPN.out]; exact hi))) HPR.out q (by rw [HPN.out]; omega) (cap - 64 * q) (by omega)
                rw [Nat.zero_add] at this
                exact this
              have hKq : ArrAt wr gk 186 kArr := ArrAt.grown (A := kArr) HKC.out hgr (by intro e; cases e; omega)
              have hsl := slice64c N cap gp q (by omega) hcap
              have hwr : IntKind.i64.wrap (64 * (q : Int) + 64) = 64 * (q : Int) + 64 := by rw [IntKind.wrap_i64]; omega
              go_wp2_with (go_at_call 125; go_must (refine (l01Block_any r (cut ps q) _ w.heap.size gk kArr _ hX hKq kArr_at HCR.out.1 HCR.out.2).mono ?_; rintro e w2 ⟨rfl, hX2, hg2⟩))
              exact ⟨⟨q + 1, by omega, by go_num, hgr.trans hg2, by rw [HB.out]; exact hX2⟩, by simp [intOf]; omega⟩
            · obtain rfl : q = Q := by omega
              clear HB
              have hbq : Below w.heap.size w wr := HBC.out.grown hgr HBC.out.size (fun k hk => by cases hk; exact Nat.le_refl _)
              have HBQ : Hid (Below w.heap.size w wr) := hbq
              clear hgr hbq HCC HGP HKC HXC HBC
              generalize blksTo ps q = R at hX HSHA
              obtain ⟨wz, hwz⟩ : ∃ wz, wz = wr := ⟨_, rfl⟩
              subst hwz
              have HXQ : Hid (ArrAt wz w.heap.size 186 (arr8 R)) := hX
              have hXlt : w.heap.size < wz.heap.size := hX.lt
              go_wp2_with fail
              go_loopw [8, 9] (fun v i wo => ∃ k : Nat, k ≤ 8 ∧ i = .int .i64 k ∧ By.OwnB 5 wo wz.heap.size v (outTo R k) ∧ Below wz.heap.size wz wo ∧ wz.heap.size ≤ wo.heap.size) (fun _ i _ => 8 - (intOf i).toNat)
              case atStart => exact ⟨0, by omega, rfl, By.own_made 5 wz wz.heap.size #[] 0 (Nat.le_refl _) (by simp [maxLen]) rfl, (Below.refl _ _).alloc (Nat.le_refl _) _, by simp⟩
              case round =>
                clear hX
                obtain ⟨k, hk, rfl, hown, hbel, hBo⟩ := hrel
                by_cases hlt : k < 8
                · have cr : wr.cell? ⟨w.heap.size, k, none⟩ = some (.int .u32 (nat (at8 R k))) := ((HXQ.out.below hbel hXlt).cell k).trans (arr8_at R k hlt)
                  have HOS : Hid (outTo R (k + 1) = outTo R k ++ [byteOf (at8 R k) 0, byteOf (at8 R k) 1, byteOf (at8 R k) 2, byteOf (at8 R k) 3]) := outTo_succ R k
                  have hl2 : (outTo R k).length + 4 ≤ 140737488355328 := by rw [outTo_length]; omega
                  generalize at8 R k = x at cr HOS
                  have q0 : (0 : Int) ≤ (k : Int) := by omega
                  have q1 : (k : Int) < 8 := by omega
                  go_wp2_with fail
                  go_region_law ((refine step_append_four (by rfl) _ _ 22 (by rfl) 5 i0 Tryz.underlying22 hi hz0 hz1 hz2 wz.heap.size wz wr _ _ _ _ _ _ (by rfl) hown hbel hBo (by rfl) hl2 ?_; intro v' w' hown' hbel' hB'))
                  all_goals
                    have hown2 : By.OwnB 5 w' wz.heap.size v' (outTo R (k + 1)) := by rw [HOS.out, ← four_eq]; exact hown'
                    clear hown hown' hbel
                    go_wp2
                    go_roundw
                    case rel => exact ⟨k + 1, by omega, by go_num, hown2, hbel', hB'⟩
                    case measure => simp [intOf]; omega
                · obtain rfl : k = 8 := by omega
                  have hcv := By.run_convert_own (P := Tryz.prog) wr wz.heap.size 22 5 9 Tryz.underlying22 Tryz.underlying5 Tryz.underlying9 u8 _ hown
                  clear hown
                  go_wp2_with fail
                  go_ret
                  exact ⟨ret_str (by rw [HSHA.out]; rfl), HBQ.out.trans (hbel.mono HBQ.out.size)⟩
    · have hd' : ¬ (m : Int) % 64 = 56 := by omega
      have hk2 : k ≠ zerosOf xs.length := fun e => hd (by rw [hm, e]; exact mid_end _)
      have hl2 : (midTo xs k).length + 1 ≤ 140737488355328 := by omega
      have HMS : Hid (midTo xs (k + 1) = midTo xs k ++ [0]) := midTo_succ xs k
      clear hm
      go_wp2_with (at_builtin; go_must (refine By.wpList_append_byte (by rfl) _ _ 22 (by rfl) 5 i0 Tryz.underlying22 hi hz0 hz1 hz2 (w.heap.size + 1) (w8 w) wr _ _ _ (by rfl) hown hbel hB (by rfl) hl2 ?_; intro v' w' hown' hbel' hB'; obtain ⟨ad', cap', rfl, _⟩ := own_open (n := m + 1) hown' (by rw [List.length_append, hml]; rfl)))
      exact ⟨⟨k + 1, by omega, by rw [HMS.out]; exact hown', hbel', hB'⟩, by have := HM.out; simp [lenV]; omega⟩
end Go.Proofs.YtkfiahemgdppfaaGreatDoor.Sh

/- Bytes that began as a literal: the first append makes a row of the call's own. -/
namespace Go.Proofs.YtkfiahemgdppfaaGreatDoor.Fu
open Go.RowKit Go.Proofs.YtkfiahemgdppfaaGreatDoor.Sl Go.Proofs.YtkfiahemgdppfaaGreatDoor.By Go.Proofs.YtkfiahemgdppfaaGreatDoor.Ap Go.Proofs.YtkfiahemgdppfaaGreatDoor.Tx

/-- The slice is a row with no room behind, whatever its mark. -/
def Full (w : World) (B : Nat) (v : Value) (zs : List Int) : Prop :=
  ∃ g, v = .slice (some ⟨g, 0, none⟩) zs.length zs.length ∧ B ≤ g ∧ g < w.heap.size ∧ ∀ j, j < zs.length → w.cell? ⟨g, j, none⟩ = some (.int .u8 (nth zs j))
def OwnF (w : World) (B : Nat) (v : Value) (zs : List Int) : Prop := OwnB 5 w B v zs ∨ Full w B v zs
theorem OwnF.below {w w' : World} {B : Nat} {v : Value} {zs : List Int} (h : OwnF w B v zs) (hb : Below w.heap.size w w') : OwnF w' B v zs := by
  rcases h with h | ⟨g, e, hB, hg, hc⟩
  · exact .inl (own_below h hb)
  · exact .inr ⟨g, e, hB, Nat.lt_of_lt_of_le hg hb.size, fun j hj => (hb.cell (p := ⟨g, j, none⟩) hg).trans (hc j hj)⟩
theorem OwnF.rowB {w : World} {B : Nat} {v : Value} {zs : List Int} (h : OwnF w B v zs) (hr : ∀ z ∈ zs, 0 ≤ z ∧ z ≤ 255) : RowB w v zs := by
  rcases h with h | ⟨g, rfl, hB, hg, hc⟩
  · exact own_rowB h hr
  · refine ⟨_, _, rfl, .inr ⟨g, 0, rfl, Nat.le_refl _, hg, fun i hi => ?_⟩, hr⟩
    rw [Nat.zero_add]
    exact hc i hi
theorem OwnF.drew {w : World} {B : Nat} {v : Value} {zs : List Int} (h : OwnF w B v zs) : OwnF w.drew B v zs := h
/-- '[]byte("..")' of a constant. -/
theorem full_lit (w : World) (zs : List Int) (n : Nat) (hn : zs.length = n) (cs : Array Value) (hcs : cs = (zs.map (Value.int .u8)).toArray) (fr : Nat × Nat) : OwnF (w.alloc (.cells cs 5 fr)) w.heap.size (.slice (some ⟨w.heap.size, 0, none⟩) n n) zs := by
  subst hn hcs
  refine .inr ⟨w.heap.size, rfl, Nat.le_refl _, by simp, fun j hj => ?_⟩
  rw [Joins.cell_of_block (heap_alloc_new w _) j, List.getElem?_toArray, List.getElem?_map, List.getElem?_eq_getElem hj]
  unfold nth
  rw [List.getD_eq_getElem?_getD, List.getElem?_eq_getElem hj]
  rfl
theorem run_strF {P : Program} {i : TypeInfo} (t tx ty : TypeId) (ht : P.underlying t = some (.slice 5)) (htx : P.underlying tx = some .string) (hi : P.info? 5 = some i) (hz : i.zero = some (.int .u8 0)) (hsize : i.size = 1) (hby : i.bytes = 1)
    (B : Nat) (W : World) (v : Value) (s : ByteArray) (zs : List Int) (hown : OwnF W B v zs) (hB : B ≤ W.heap.size) (hlen : zs.length + s.size ≤ 1000000000) (hs : 0 < s.size) :
    ∃ v' w', (Builtin.append_ #[t, tx] ty #[v, .string s]).run P W = .ok v' w' ∧ OwnB 5 w' B v' (zs ++ bys s) ∧ Below B W w' := by
  rcases hown with hown | ⟨g, rfl, hg, hlt, hc⟩
  · obtain ⟨v', w', h1, h2, h3⟩ := run_str (P := P) t tx ty ht htx hi hz hsize hby B W v s zs hown hB (by omega)
    exact ⟨v', w', h1, h2, h3.below hown hB⟩
  · have holds : ∀ j u, (zs.map (Value.int .u8))[j]? = some u → W.cell? ((⟨g, 0, none⟩ : Addr).add j) = some u := by
      intro j u hj
      have hj' : j < zs.length := by have := (List.getElem?_eq_some_iff.1 hj).1; simpa using this
      rw [addr_add, Nat.zero_add, hc j hj', ← hj, List.getElem?_map, List.getElem?_eq_getElem hj']
      unfold nth
      rw [List.getD_eq_getElem?_getD, List.getElem?_eq_getElem hj']
      rfl
    have hr := Lib.run_append_grow_string (P := P) W t tx ty 5 i (.int .u8 0) ht htx hi hz ⟨g, 0, none⟩ zs.length zs.length (zs.map (Value.int .u8)) (by rw [hsize]; simp) holds s (by omega) (by omega) (by rw [hby]; exact growslice_fits (by omega) (by omega))
    refine ⟨_, _, hr, ?_, ⟨rfl, rfl, rfl, by simp, fun k hk => heap_alloc_old W.drew _ (show k < W.heap.size by omega)⟩⟩
    have hge := grownCap_ge W (zs.length + s.size) zs.length 5
    have hcm : grownCap W (zs.length + s.size) zs.length 5 ≤ maxLen := grownCap_le_maxLen W _ _ _ (by unfold maxLen; omega)
    have hl : (zs ++ bys s).length = zs.length + s.size := by rw [List.length_append, bys_length]
    unfold OwnB
    rw [hl, List.map_append, ← str_cells]
    have hlen2 : (zs.map (Value.int .u8) ++ Lib.strCells s).length = (zs.length + s.size) * 1 := by rw [List.length_append, List.length_map, Lib.strCells_length, Nat.mul_one]
    refine ⟨hlen2, .inr ⟨W.heap.size, _, _, rfl, hB, heap_alloc_new W.drew _, hge, hcm, ?_, ?_⟩⟩
    · have hz1 : (Value.int IntKind.u8 0).cells.size = 1 := rfl
      simp only [Array.size_append, List.size_toArray, size_zeroCells, hz1, List.length_map, Lib.strCells_length]
      omega
    · simp only [Array.toList_append, List.append_assoc]
      rw [← List.append_assoc, ← hlen2]
      exact List.take_left
theorem list_strF {P : Program} {i : TypeInfo} {ops : Array Oper} {rest : List Oper} {o : Oper} {a : Act} {Q : Exit → Act → World → Prop} (hgd : o.guard = none) (s x : Operand) (t tx : TypeId) (ho : o.op = .call { callee := .builtin .append, args := #[s, x], argTypes := #[t, tx] }) (ht : P.underlying t = some (.slice 5)) (htx : P.underlying tx = some .string) (hi : P.info? 5 = some i) (hz : i.zero = some (.int .u8 0))
    (hsize : i.size = 1) (hby : i.bytes = 1) (B : Nat) (W : World) (v : Value) (st : ByteArray) (zs : List Int) (hs : a.eval s = v) (hx : a.eval x = .string st) (hown : OwnF W B v zs) (hB : B ≤ W.heap.size) (hlen : zs.length + st.size ≤ 1000000000) (h0 : 0 < st.size)
    (h : ∀ v' w', OwnF w' B v' (zs ++ bys st) → Below B W w' → wpList P ops Q rest (a.put o.dst v') w') : wpList P ops Q (o :: rest) a W := by
  refine wpList_plain hgd fun K hK => ?_
  obtain ⟨v', w', hr, ho', hg⟩ := run_strF (P := P) t tx o.type ht htx hi hz hsize hby B W v st zs hown hB hlen h0
  exact wp_app ho hs hx hr (hK _ _ (h v' w' (.inl ho') hg))
theorem step_strF {P : Program} {i : TypeInfo} {ops : Array Oper} {o : Oper} {a : Act} {K : Act → World → Prop} {Q : Exit → Act → World → Prop} {E : Prop} (hgd : o.guard = none) (s x : Operand) (t tx : TypeId) (ho : o.op = .call { callee := .builtin .append, args := #[s, x], argTypes := #[t, tx] }) (ht : P.underlying t = some (.slice 5)) (htx : P.underlying tx = some .string) (hi : P.info? 5 = some i) (hz : i.zero = some (.int .u8 0))
    (hsize : i.size = 1) (hby : i.bytes = 1) (B : Nat) (W : World) (v : Value) (st : ByteArray) (zs : List Int) (hs : a.eval s = v) (hx : a.eval x = .string st) (hown : OwnF W B v zs) (hB : B ≤ W.heap.size) (hlen : zs.length + st.size ≤ 1000000000) (h0 : 0 < st.size)
    (h : ∀ v' w', OwnF w' B v' (zs ++ bys st) → Below B W w' → K (a.put o.dst v') w') : if Region.wanted o (yielded ops a.tmps) = true then Oper.wp P o a W K Q else E := by
  have hw : Region.wanted o (yielded ops a.tmps) = true := by simp [Region.wanted, hgd]
  rw [if_pos hw]
  obtain ⟨v', w', hr, ho', hg⟩ := run_strF (P := P) t tx o.type ht htx hi hz hsize hby B W v st zs hown hB hlen h0
  exact wp_app ho hs hx hr (h v' w' (.inl ho') hg)
end Go.Proofs.YtkfiahemgdppfaaGreatDoor.Fu
