/- Texts put together: ShaA, ShaL, Sx. -/
import Derived.Test.YtakfniknkejgpaaDoorMp13
import Derived.Deep.Upon
import Derived.Maps.AppendAt
import Derived.BigRegion
import Derived.Test.YtakfniknkejgpaaDoorMp12
/- Words for the specification's l01Hash: what it appends, and what it reads again. -/
namespace Go.Proofs.YtakfniknkejgpaaDoor.Sh
open Go.RowKit Go.Proofs.YtakfniknkejgpaaDoor.Sl Go.Proofs.YtakfniknkejgpaaDoor.Me

theorem wpList_append_rowB {P : Program} {ops : Array Oper} {rest : List Oper} {o : Oper} {a : Act} {Q : Exit → Act → World → Prop} (hgd : o.guard = none) (s x : Operand) (t : TypeId)
 (ho : o.op = .call { callee := .builtin .append, args := #[s, x], argTypes := #[t, t] }) (e : TypeId) (i : TypeInfo) (ht : P.underlying t = some (.slice e)) (hi : P.info? e = some i) (hz : i.zero = some (.int .u8 0))
 (hsize : i.size = 1) (hby : i.bytes = 1) (B : Nat) (w0 W : World) (v u : Value) (zs xs : List Int) (hs : a.eval s = v) (hown : By.OwnB e W B v zs) (hbel : Below B w0 W) (hB : B ≤ W.heap.size)
 (hx : a.eval x = u) (hu : RowB W u xs) (hlen : zs.length + xs.length ≤ 140737488355328)
 (h : ∀ v' w', By.OwnB e w' B v' (zs ++ xs) → Below B w0 w' → B ≤ w'.heap.size → wpList P ops Q rest (a.put o.dst v') w') : wpList P ops Q (o :: rest) a W := by
 obtain ⟨ad, cap, rfl, hc, _⟩ := hu
 have hown2 := hown
 unfold By.OwnB at hown2
 cases ad with
 | none =>
   obtain rfl : xs = [] := by
    rcases hc with h | ⟨_, _, h, _⟩
    ·exact h
    ·cases h
   have hr : (Builtin.append_ #[t, t] o.type #[v, .slice none 0 cap]).run P W = .ok v W := by
    rcases hown2.2 with ⟨rfl, _⟩ | ⟨g, c, cur, rfl, _, _, hn, _⟩
    ·exact run_append_nothing W t t o.type e i ht hi none 0 0 (Nat.le_refl _) _ (Src.ofNil W ht cap)
    ·exact run_append_nothing W t t o.type e i ht hi _ _ _ hn _ (Src.ofNil W ht cap)
   refine wpList_plain hgd fun K hK => ?_
   unfold Oper.wp execOp
   simp only [ho, resolve, invoke, builtin, Sem.run_bind, Sem.run_pure, Result.andThen_ok, List.map_toArray, List.map_cons, List.map_nil, hs, hx, List.length_nil, hr]
   exact hK _ _ (h v W (by simpa using hown) hbel hB)
 | some ad =>
   refine wpList_append_own _ hgd s x t ho B e i (.int .u8 0) 1 1 ht hi hz hsize hby rfl (by decide) v zs.length _ hs hown2 ad xs.length cap (xs.map (Value.int .u8)) hx (by simp) ?_ ?_ ?_ ?_ hB ?_
   ·intro j y hy
    rcases hc with rfl | ⟨b, off, e1, _, hb, hcell⟩
    ·simp at hy
    ·cases e1
     have hj : j < xs.length := by have := (List.getElem?_eq_some_iff.1 hy).1; simpa using this
     rw [addr_add, hcell j hj, ← hy, List.getElem?_map, List.getElem?_eq_getElem hj]
     unfold nth
     rw [List.getD_eq_getElem?_getD, List.getElem?_eq_getElem hj]
     rfl
   ·intro y hy
    obtain ⟨z, _, rfl⟩ := List.mem_map.1 hy
    rfl
   ·unfold maxLen; omega
   ·omega
   ·intro v' w' h1 h2 _
    refine h v' w' (by unfold By.OwnB; simpa using h1) (hbel.grown h2 hB (fun k hk => (hown2.lt k hk).1)) ?_
    have := h2.size
    omega

theorem step_append_four {P : Program} {ops : Array Oper} {o : Oper} {a : Act} {K : Act → World → Prop} {Q : Exit → Act → World → Prop} {E : Prop} (hgd : o.guard = none) (s x : Operand) (t : TypeId)
 (ho : o.op = .call { callee := .builtin .append, args := #[s, x], argTypes := #[t, t] }) (e : TypeId) (i : TypeInfo) (ht : P.underlying t = some (.slice e)) (hi : P.info? e = some i) (hz : i.zero = some (.int .u8 0))
 (hsize : i.size = 1) (hby : i.bytes = 1) (B : Nat) (w0 W : World) (v : Value) (zs : List Int) (z0 z1 z2 z3 : Int) (hs : a.eval s = v) (hown : By.OwnB e W B v zs) (hbel : Below B w0 W) (hB : B ≤ W.heap.size)
 (hx : a.eval x = .slice (some ⟨W.heap.size, 0, none⟩) 4 4) (hlen : zs.length + 4 ≤ 140737488355328)
 (h : ∀ v' w', By.OwnB e w' B v' (zs ++ [z0, z1, z2, z3]) → Below B w0 w' → B ≤ w'.heap.size → K (a.put o.dst v') w') :
 if Region.wanted o (yielded ops a.tmps) = true then Oper.wp P o a (W.alloc (.cells #[.int .u8 z0, .int .u8 z1, .int .u8 z2, .int .u8 z3] e)).drew K Q else E := by
 refine step_append_lies _ hgd s x t ho B e i (.int .u8 0) 1 1 ht hi hz hsize hby rfl (by decide) v zs.length _ hs ((hown.alloc _).drew) ⟨W.heap.size, 0, none⟩ 4 4 [.int .u8 z0, .int .u8 z1, .int .u8 z2, .int .u8 z3] hx rfl ?_ ?_ (by omega) ?_ ?_ ?_ (W.heap.size + 1) (by simp) ?_
 ·exact World.news_of_block (cs := #[.int .u8 z0, .int .u8 z1, .int .u8 z2, .int .u8 z3]) (t := e) (fr := (0, 0)) (heap_alloc_new W _)
 ·simp [Value.oneCell']
 ·unfold maxLen; omega
 ·omega
 ·simp; omega
 ·intro g cap w' h1 h2 _ _
  refine h _ w' (by unfold By.OwnB; simpa using h1) (By.below_own _ hown hbel hB ⟨h2.os, h2.tape, h2.output, h2.size, h2.block⟩) ?_
  have := h2.size
  simp at this
  omega

theorem own_open {e : TypeId} {w : World} {B n : Nat} {v : Value} {zs : List Int} (h : By.OwnB e w B v zs) (hn : zs.length = n) :
 ∃ ad cap, v = .slice ad n cap ∧ (0 < n → ∃ g, ad = some ⟨g, 0, none⟩ ∧ B ≤ g ∧ g < w.heap.size ∧ n ≤ cap ∧ ∀ i, i < n → w.cell? ⟨g, i, none⟩ = some (.int .u8 (nth zs i))) := by
 unfold By.OwnB at h
 rw [hn] at h
 rcases h.2 with ⟨rfl, h0⟩ | ⟨g, cap, cur, rfl, hb, hg, hnc, _, _, htk⟩
 ·exact ⟨none, 0, by rw [h0], fun h => by omega⟩
 ·refine ⟨_, cap, rfl, fun _ => ⟨g, rfl, hb, (Array.getElem?_eq_some_iff.1 hg).1, hnc, fun i hi => ?_⟩⟩
  have h1 : (cur.toList.take (n * 1))[i]? = some (.int .u8 (nth zs i)) := by
   rw [htk, List.getElem?_map, List.getElem?_eq_getElem (by omega)]
   unfold nth
   rw [List.getD_eq_getElem?_getD, List.getElem?_eq_getElem (show i < zs.length by omega)]
   rfl
  rw [List.getElem?_take_of_lt (by omega), Array.getElem?_toList] at h1
  simp [World.cell?, hg, h1]

def midTo (xs : List Int) (k : Nat) : List Int := xs ++ [128] ++ List.replicate k 0
theorem midTo_length (xs : List Int) (k : Nat) : (midTo xs k).length = xs.length + 1 + k := by unfold midTo; simp; omega
theorem midTo_succ (xs : List Int) (k : Nat) : midTo xs (k + 1) = midTo xs k ++ [0] := by
 unfold midTo; rw [List.replicate_succ', ← List.append_assoc]
theorem midTo_zero (xs : List Int) : midTo xs 0 = xs ++ [128] := by unfold midTo; simp
def lenTo (n k : Nat) : List Int := (lenBytes n).take k
theorem lenTo_length (n k : Nat) (h : k ≤ 8) : (lenTo n k).length = k := by
 unfold lenTo lenBytes; rw [List.length_take]; simp; omega
theorem lenTo_succ (n k : Nat) (h : k < 8) : lenTo n (k + 1) = lenTo n k ++ [lenByte n k] := by
 match k, h with
 | 0, _ => rfl
 | 1, _ => rfl
 | 2, _ => rfl
 | 3, _ => rfl
 | 4, _ => rfl
 | 5, _ => rfl
 | 6, _ => rfl
 | 7, _ => rfl
def padTo (xs : List Int) (k : Nat) : List Int := midTo xs (zerosOf xs.length) ++ lenTo xs.length k
theorem padTo_succ (xs : List Int) (k : Nat) (h : k < 8) : padTo xs (k + 1) = padTo xs k ++ [lenByte xs.length k] := by
 unfold padTo; rw [lenTo_succ _ _ h, List.append_assoc]
theorem padTo_length (xs : List Int) (k : Nat) (h : k ≤ 8) : (padTo xs k).length = xs.length + 1 + zerosOf xs.length + k := by
 unfold padTo; rw [List.length_append, midTo_length, lenTo_length _ _ h]
theorem padTo_zero (xs : List Int) : padTo xs 0 = midTo xs (zerosOf xs.length) := by unfold padTo lenTo; simp
def lenV : Value → Nat
 | .slice _ n _ => n
 | _ => 0
theorem mid_done {n k : Nat} (h : (n + 1 + k) % 64 = 56) (hk : k ≤ zerosOf n) : k = zerosOf n := by unfold zerosOf at *; omega
theorem mid_end (n : Nat) : (n + 1 + zerosOf n) % 64 = 56 := by unfold zerosOf; omega

theorem slice64c (n c b q : Nat) (h : 64 * q + 64 ≤ n) (hc : n ≤ c) (W : World) :
 (Instr.slice 22 (.slice (some ⟨b, 0, none⟩) n c) (some (.int .i64 (64 * (q : Int)))) (some (.int .i64 (64 * (q : Int) + 64))) none).run Tryd.prog W = .ok (.slice (some ⟨b, 64 * q, none⟩) 64 (c - 64 * q)) W := by
 have := Lib.run_slice_window (P := Tryd.prog) W 22 5 Tryd.underlying22 size1 b 0 n c (64 * q) (64 * q + 64) (by omega) (by omega)
 rw [Nat.zero_add, show 64 * q + 64 - 64 * q = 64 by omega] at this
 rw [← this]
 rfl
theorem ArrAt.grown {w w' : World} {g : Nat} {T : TypeId} {A : Array Value} {row : Option Nat} (h : ArrAt w g T A) (hg : w.grownBy w' row) (hne : some g ≠ row) : ArrAt w' g T A := (hg.block g (ArrAt.lt h) hne).trans h
theorem len_byte (n k : Nat) (h : k < 8) : 8 * (n : Int) / 2 ^ (8 * (7 - k)) % 256 = lenByte n k := by
 have := len_eq n (7 - k) (by omega)
 rw [Int.mul_comm, this, show 7 - (7 - k) = k by omega]
end Go.Proofs.YtakfniknkejgpaaDoor.Sh

/- The specification's l01Hash and Hash. -/
namespace Go.Proofs.YtakfniknkejgpaaDoor.Sh
open Go.RowKit Go.Proofs.YtakfniknkejgpaaDoor.Sl Go.Proofs.YtakfniknkejgpaaDoor.Me

theorem lit8 : (#[.int .u32 1779033703, .int .u32 3144134277, .int .u32 1013904242, .int .u32 2773480762, .int .u32 1359893119, .int .u32 2600822924, .int .u32 528734635, .int .u32 1541459225] : Array Value) = arr8 r0 := rfl
def w8 (w : World) : World := w.alloc (.cells (arr8 r0) 103)
def w9 (w : World) : World := (w.alloc (.cells #[.int .u32 1779033703, .int .u32 3144134277, .int .u32 1013904242, .int .u32 2773480762, .int .u32 1359893119, .int .u32 2600822924, .int .u32 528734635, .int .u32 1541459225] 103)).alloc (.cells #[] 5)
theorem start8 {w : World} {v : Value} {xs : List Int} (h : RowB w v xs) :
 (w8 w).heap.size = w.heap.size + 1 ∧ ArrAt (w8 w) w.heap.size 103 (arr8 r0) ∧ Below w.heap.size w (w8 w) ∧
 RowB (w9 w) v xs ∧ By.OwnB 5 (w9 w) (w.heap.size + 1) (.slice (some ⟨w.heap.size + 1, 0, none⟩) 0 0) [] ∧ Below (w.heap.size + 1) (w8 w) (w9 w) ∧ w.heap.size + 1 ≤ (w9 w).heap.size := by
 have b1 : Below w.heap.size w (w8 w) := (Below.refl _ _).alloc (Nat.le_refl _) _
 have hs : (w8 w).heap.size = w.heap.size + 1 := by simp [w8]
 have e9 : w9 w = (w8 w).alloc (.cells #[] 5) := by unfold w9 w8; rw [lit8]
 rw [e9]
 refine ⟨hs, arrAt_new w _ _, b1, (h.below b1).below ((Below.refl _ _).alloc (Nat.le_refl _) _), ?_, ?_, ?_⟩
 ·rw [← hs]; exact By.own_made 5 (w8 w) _ #[] 0 (Nat.le_refl _) (by simp [maxLen]) rfl
 ·rw [← hs]; exact (Below.refl _ _).alloc (Nat.le_refl _) _
 ·simp; omega

theorem four_eq (x : UInt32) : [IntKind.u8.wrap (nat x / 16777216), IntKind.u8.wrap (nat x / 65536), IntKind.u8.wrap (nat x / 256), IntKind.u8.wrap (nat x)] = [byteOf x 0, byteOf x 1, byteOf x 2, byteOf x 3] := by
 simp [byteOf, IntKind.wrap_u8]

set_option maxRecDepth 100000 in
set_option maxHeartbeats 3200000 in
theorem l01Hash_any (vb : Value) (xs : List Int) (w : World) (h : RowB w vb xs) (hl : xs.length ≤ 65536) :
 Calls Tryd.prog 34 #[vb] w fun e w' => e = .returned (.string (strOfNums (sha xs))) ∧ Below w.heap.size w w' := by
 obtain ⟨i0, hi, hz0, hz1, hz2⟩ := info_parts info5
 have hl' : (xs.length : Int) ≤ 65536 := by omega
 have hst := start8 h
 obtain ⟨ab, capb, rfl, _, hr⟩ := h
 have HRG : Hid (∀ x ∈ xs, 0 ≤ x ∧ x ≤ 255) := hr
 obtain ⟨hsz, hx1, hb1, hre, how, hbe, hse⟩ := hst
 have HX1 : Hid (ArrAt (w8 w) w.heap.size 103 (arr8 r0)) := hx1
 have HB1 : Hid (Below w.heap.size w (w8 w)) := hb1
 have HRE : Hid (RowB (w9 w) (.slice ab xs.length capb) xs) := hre
 have HOW : Hid (By.OwnB 5 (w9 w) (w.heap.size + 1) (.slice (some ⟨w.heap.size + 1, 0, none⟩) 0 0) []) := how
 have HBE : Hid (Below (w.heap.size + 1) (w8 w) (w9 w)) := hbe
 have HSE : Hid (w.heap.size + 1 ≤ (w9 w).heap.size) := hse
 clear hr hsz hx1 hb1 hre how hbe hse
 go_enter Tryd.func34, Tryd.ntmps34
 go_wp2_with (at_builtin; first
  | (refine By.wpList_append_byte (by rfl) _ _ 22 (by rfl) 5 i0 Tryd.underlying22 hi hz0 hz1 hz2 (w.heap.size + 1) (w8 w) w2 _ _ _ (by rfl) hown2 hbel2 hB2 (by rfl) (by simp; omega) ?_; intro v3 w3 hown3 hbel3 hB3)
  | (refine wpList_append_rowB (by rfl) _ _ 22 (by rfl) 5 i0 Tryd.underlying22 hi hz0 hz1 hz2 (w.heap.size + 1) (w8 w) _ _ _ [] xs (by rfl) HOW.out HBE.out HSE.out (by rfl) HRE.out (by simp; omega) ?_; intro v2 w2 hown2 hbel2 hB2))
 have hown0 : By.OwnB 5 w3 (w.heap.size + 1) v3 (midTo xs 0) := by rw [midTo_zero]; exact hown3
 clear hown2 hbel2 hB2 hown3 HOW HBE HSE HRE
 go_loopw [4] (fun v wr => ∃ k : Nat, k ≤ zerosOf xs.length ∧ By.OwnB 5 wr (w.heap.size + 1) v (midTo xs k) ∧ Below (w.heap.size + 1) (w8 w) wr ∧ w.heap.size + 1 ≤ wr.heap.size) (fun v _ => xs.length + 1 + zerosOf xs.length - lenV v)
 case atStart => exact ⟨0, by omega, hown0, hbel3, hB3⟩
 case round =>
  clear hown0 hbel3 hB3
  obtain ⟨k, hk, hown, hbel, hB⟩ := hrel
  have hz64 : zerosOf xs.length < 64 := by unfold zerosOf; omega
  obtain ⟨m, hm⟩ : ∃ m, m = xs.length + 1 + k := ⟨_, rfl⟩
  have hml : (midTo xs k).length = m := by rw [midTo_length, hm]
  have HM : Hid (m = xs.length + 1 + k) := hm
  obtain ⟨ad, cap, rfl, _⟩ := own_open hown hml
  have hmb : m ≤ 65700 := by omega
  by_cases hd : m % 64 = 56
  ·obtain rfl : k = zerosOf xs.length := mid_done (by rw [← hm]; exact hd) hk
   have hd' : (m : Int) % 64 = 56 := by omega
   have hown1 : By.OwnB 5 wr (w.heap.size + 1) (.slice ad m cap) (padTo xs 0) := by rw [padTo_zero]; exact hown
   clear hown hm hml
   go_wp2_with fail
   go_loopw [4, 5] (fun v i wr => ∃ k : Nat, k ≤ 8 ∧ i = .int .i64 (7 - (k : Int)) ∧ By.OwnB 5 wr (w.heap.size + 1) v (padTo xs k) ∧ Below (w.heap.size + 1) (w8 w) wr ∧ w.heap.size + 1 ≤ wr.heap.size) (fun _ i _ => (intOf i + 1).toNat)
   case atStart => exact ⟨0, by omega, rfl, hown1, hbel, hB⟩
   case round =>
    clear hown1 hbel hB hd hd' hk hmb
    obtain ⟨k, hk, rfl, hown, hbel, hB⟩ := hrel
    have hpl := padTo_length xs k hk
    by_cases hlt : k < 8
    ·have hpos : (0 : Int) ≤ 7 - (k : Int) := by omega
     have hl2 : (padTo xs k).length + 1 ≤ 140737488355328 := by omega
     have HPS : Hid (padTo xs (k + 1) = padTo xs k ++ [lenByte xs.length k]) := padTo_succ xs k hlt
     clear hpl
     go_wp2_with (at_builtin; refine By.wpList_append_byte (by rfl) _ _ 22 (by rfl) 5 i0 Tryd.underlying22 hi hz0 hz1 hz2 (w.heap.size + 1) (w8 w) wr _ _ _ (by rfl) hown hbel hB (by rfl) hl2 ?_; intro v' w' hown' hbel' hB')
     exact ⟨⟨k + 1, by omega, by go_num, by rw [HPS.out, ← len_byte _ _ hlt]; exact hown', hbel', hB'⟩, by simp [intOf]; omega⟩
    ·obtain rfl : k = 8 := by omega
     obtain ⟨Q, hQ⟩ : ∃ Q, Q = (xs.length + 72) / 64 := ⟨_, rfl⟩
     have HSHA : Hid (sha xs = out (blksTo (pad xs) Q)) := by show sha xs = _; rw [hQ]; rfl
     have HPR : Hid (∀ x ∈ pad xs, 0 ≤ x ∧ x ≤ 255) := pad_range HRG.out
     obtain ⟨N, hN⟩ : ∃ N, N = 64 * Q := ⟨_, rfl⟩
     have hpn : (pad xs).length = N := by rw [hN, hQ]; exact pad_blocks xs
     have hQ1 : 0 < Q := by omega
     have hQ2 : Q ≤ 1026 := by omega
     have hown8 : By.OwnB 5 wr (w.heap.size + 1) u4 (pad xs) := hown
     clear hown hpl hQ
     generalize pad xs = ps at HSHA HPR hpn hown8
     obtain ⟨ad, cap, rfl, hcs⟩ := own_open hown8 hpn
     obtain ⟨gp, rfl, hgp, hgplt, hcap, hcells⟩ := hcs (by omega)
     have hXr := HX1.out.below hbel (by omega)
     have hXc := hXr.alloc (.cells kArr 103)
     have hKc := arrAt_new wr 103 kArr
     have hbc : Below w.heap.size w (wr.alloc (.cells kArr 103)) := (HB1.out.trans (hbel.mono (by omega))).alloc (by omega) _
     have hcc : ∀ i, i < N → (wr.alloc (.cells kArr 103)).cell? ⟨gp, i, none⟩ = some (.int .u8 (nth ps i)) := fun i hi => by rw [World.cell?_alloc_past _ _ _ hgplt]; exact hcells i hi
     have hgpc : gp < (wr.alloc (.cells kArr 103)).heap.size := by simp; omega
     have HXC : Hid _ := hXc
     have HKC : Hid _ := hKc
     have HBC : Hid _ := hbc
     have HCC : Hid _ := hcc
     have HGP : Hid _ := hgpc
     have HPN : Hid _ := hpn
     clear hXr hXc hKc hbc hcc hgpc hcells hcs hown8 hpn hbel
     go_wp2_with fail
     refine (l01Consts_any _).mono ?_
     rintro e wc ⟨rfl, rfl⟩
     generalize wr.alloc (.cells kArr 103) = wc at HXC HKC HBC HCC HGP ⊢
     generalize wr.heap.size = gk at HKC hB hgplt ⊢
     have hM0 : (N : Int) ≤ 64 * (Q : Int) := by omega
     have hM1 : 64 * (Q : Int) ≤ (N : Int) := by omega
     go_wp2_with fail
     go_loopw [7] (fun i wq => ∃ q : Nat, q ≤ Q ∧ i = .int .i64 (64 * (q : Int)) ∧ wc.grownBy wq (some w.heap.size) ∧ ArrAt wq w.heap.size 103 (arr8 (blksTo ps q))) (fun i _ => 64 * Q - (intOf i).toNat)
     case atStart => exact ⟨0, by omega, rfl, ⟨rfl, rfl, rfl, Nat.le_refl _, fun _ _ _ => rfl⟩, HXC.out⟩
     case round =>
      obtain ⟨q, hq, rfl, hgr, hX⟩ := hrel
      have HB : Hid (blksTo ps (q + 1) = blk (blksTo ps q) (cut ps q)) := rfl
      by_cases hlt : q < Q
      ·have p0 : (0 : Int) ≤ 64 * (q : Int) := by omega
       have p1 : 64 * (q : Int) + 64 ≤ (N : Int) := by omega
       have p2 : 64 * (q : Int) ≤ 64 * (q : Int) + 64 := by omega
       generalize blksTo ps q = r at hX HB
       have HCR : Hid (RowB wr (.slice (some ⟨gp, 64 * q, none⟩) 64 (cap - 64 * q)) (cut ps q) ∧ (cut ps q).length = 64) := by
        have hne : some gp ≠ some w.heap.size := by intro e; cases e; omega
        have := cut_row (w := wr) (ps := ps) (b := gp) (off := 0) (Nat.lt_of_lt_of_le HGP.out hgr.size) (fun i hi => by rw [Nat.zero_add]; exact (hgr.cell_far ⟨gp, i, none⟩ HGP.out hne).trans (HCC.out i (by rw [← HPN.out]; exact hi))) HPR.out q (by rw [HPN.out]; omega) (cap - 64 * q) (by omega)
        rw [Nat.zero_add] at this
        exact this
       have hKq : ArrAt wr gk 103 kArr := ArrAt.grown (A := kArr) HKC.out hgr (by intro e; cases e; omega)
       have hsl := slice64c N cap gp q (by omega) hcap
       have hwr : IntKind.i64.wrap (64 * (q : Int) + 64) = 64 * (q : Int) + 64 := by rw [IntKind.wrap_i64]; omega
       go_wp2_with (go_at_call 65; go_must (refine (l01Block_any r (cut ps q) _ w.heap.size gk kArr _ hX hKq kArr_at HCR.out.1 HCR.out.2).mono ?_; rintro e w2 ⟨rfl, hX2, hg2⟩))
       exact ⟨⟨q + 1, by omega, by go_num, hgr.trans hg2, by rw [HB.out]; exact hX2⟩, by simp [intOf]; omega⟩
      ·obtain rfl : q = Q := by omega
       clear HB
       have hbq : Below w.heap.size w wr := HBC.out.grown hgr HBC.out.size (fun k hk => by cases hk; exact Nat.le_refl _)
       have HBQ : Hid (Below w.heap.size w wr) := hbq
       clear hgr hbq HCC HGP HKC HXC HBC
       generalize blksTo ps q = R at hX HSHA
       obtain ⟨wz, hwz⟩ : ∃ wz, wz = wr := ⟨_, rfl⟩
       subst hwz
       have HXQ : Hid (ArrAt wz w.heap.size 103 (arr8 R)) := hX
       have hXlt : w.heap.size < wz.heap.size := hX.lt
       go_wp2_with fail
       go_loopw [8, 9] (fun v i wo => ∃ k : Nat, k ≤ 8 ∧ i = .int .i64 k ∧ By.OwnB 5 wo wz.heap.size v (outTo R k) ∧ Below wz.heap.size wz wo ∧ wz.heap.size ≤ wo.heap.size) (fun _ i _ => 8 - (intOf i).toNat)
       case atStart => exact ⟨0, by omega, rfl, By.own_made 5 wz wz.heap.size #[] 0 (Nat.le_refl _) (by simp [maxLen]) rfl, (Below.refl _ _).alloc (Nat.le_refl _) _, by simp⟩
       case round =>
        clear hX
        obtain ⟨k, hk, rfl, hown, hbel, hBo⟩ := hrel
        by_cases hlt : k < 8
        ·have cr : wr.cell? ⟨w.heap.size, k, none⟩ = some (.int .u32 (nat (at8 R k))) := ((HXQ.out.below hbel hXlt).cell k).trans (arr8_at R k hlt)
         have HOS : Hid (outTo R (k + 1) = outTo R k ++ [byteOf (at8 R k) 0, byteOf (at8 R k) 1, byteOf (at8 R k) 2, byteOf (at8 R k) 3]) := outTo_succ R k
         have hl2 : (outTo R k).length + 4 ≤ 140737488355328 := by rw [outTo_length]; omega
         generalize at8 R k = x at cr HOS
         have q0 : (0 : Int) ≤ (k : Int) := by omega
         have q1 : (k : Int) < 8 := by omega
         go_wp2_with fail
         go_region_law ((refine step_append_four (by rfl) _ _ 22 (by rfl) 5 i0 Tryd.underlying22 hi hz0 hz1 hz2 wz.heap.size wz wr _ _ _ _ _ _ (by rfl) hown hbel hBo (by rfl) hl2 ?_; intro v' w' hown' hbel' hB'))
         all_goals
          have hown2 : By.OwnB 5 w' wz.heap.size v' (outTo R (k + 1)) := by rw [HOS.out, ← four_eq]; exact hown'
          clear hown hown' hbel
          go_wp2
          go_roundw
          case rel => exact ⟨k + 1, by omega, by go_num, hown2, hbel', hB'⟩
          case measure => simp [intOf]; omega
        ·obtain rfl : k = 8 := by omega
         have hcv := By.run_convert_own (P := Tryd.prog) wr wz.heap.size 22 5 9 Tryd.underlying22 Tryd.underlying5 Tryd.underlying9 u8 _ hown
         clear hown
         go_wp2_with fail
         go_ret
         exact ⟨ret_str (by rw [HSHA.out]; rfl), HBQ.out.trans (hbel.mono HBQ.out.size)⟩
  ·have hd' : ¬ (m : Int) % 64 = 56 := by omega
   have hk2 : k ≠ zerosOf xs.length := fun e => hd (by rw [hm, e]; exact mid_end _)
   have hl2 : (midTo xs k).length + 1 ≤ 140737488355328 := by omega
   have HMS : Hid (midTo xs (k + 1) = midTo xs k ++ [0]) := midTo_succ xs k
   clear hm
   go_wp2_with (at_builtin; go_must (refine By.wpList_append_byte (by rfl) _ _ 22 (by rfl) 5 i0 Tryd.underlying22 hi hz0 hz1 hz2 (w.heap.size + 1) (w8 w) wr _ _ _ (by rfl) hown hbel hB (by rfl) hl2 ?_; intro v' w' hown' hbel' hB'; obtain ⟨ad', cap', rfl, _⟩ := own_open (n := m + 1) hown' (by rw [List.length_append, hml]; rfl)))
   exact ⟨⟨k + 1, by omega, by rw [HMS.out]; exact hown', hbel', hB'⟩, by have := HM.out; simp [lenV]; omega⟩
end Go.Proofs.YtakfniknkejgpaaDoor.Sh

/- The specification's secrets, nodes and keys. -/
namespace Go.Proofs.YtakfniknkejgpaaDoor.Sx
open Go.RowKit Go.Proofs.YtakfniknkejgpaaDoor.Sl Go.Proofs.YtakfniknkejgpaaDoor.By Go.Proofs.YtakfniknkejgpaaDoor.Ap Go.Proofs.YtakfniknkejgpaaDoor.Tx Go.Proofs.YtakfniknkejgpaaDoor.Sh Go.Proofs.YtakfniknkejgpaaDoor.Ho Go.Proofs.YtakfniknkejgpaaDoor.Se Go.Proofs.YtakfniknkejgpaaDoor.Ka

theorem hash1_any (v : Value) (xs : List Int) (w : World) (h : RowB w v xs) (hl : xs.length ≤ 65536) :
 Calls Tryd.prog 34 #[v] w fun e w' => e = .returned (.string (hashS xs)) ∧ Below w.heap.size w w' := by
 have e : hashS xs = strOfNums (sha xs) := if_neg (by omega)
 rw [e]
 exact l01Hash_any v xs w h hl

set_option maxRecDepth 100000 in
set_option maxHeartbeats 400000 in
theorem l03Node_any (l r : ByteArray) (w : World) (hl : l.size ≤ 30000) (hr : r.size ≤ 30000) :
 Calls Tryd.prog 74 #[.string l, .string r] w fun e w' => e = .returned (.string (node l r)) ∧ Below w.heap.size w w' := by
 have HE : Hid (bys ((bNode ++ l) ++ r) = bys bNode ++ bys l ++ bys r) := by
  show _ = _
  rw [bys_append, bys_append]
 have HL : Hid ((bys bNode ++ bys l ++ bys r).length ≤ 65536) := by
  show _ ≤ _
  rw [List.length_append, List.length_append, bys_length, bys_length, bys_length]
  have : bNode.size = 4 := rfl
  omega
 have hA : ¬ 9223372036854775807 < (⟨#[110, 111, 100, 101]⟩ : ByteArray).size + l.size := by have : (⟨#[110, 111, 100, 101]⟩ : ByteArray).size = 4 := rfl; omega
 have hA' : ¬ 9223372036854775807 < 4 + l.size := by omega
 have hB : ¬ 9223372036854775807 < ((⟨#[110, 111, 100, 101]⟩ : ByteArray) ++ l).size + r.size := by
  rw [ByteArray.size_append]; have : (⟨#[110, 111, 100, 101]⟩ : ByteArray).size = 4 := rfl; omega
 have hB' : ¬ 9223372036854775807 < 4 + l.size + r.size := by omega
 obtain ⟨v2, w2, hc2, r2, b2⟩ := bytes_run ((bNode ++ l) ++ r) w
 have hc2' : (convert 9 22 (.string (((⟨#[110, 111, 100, 101]⟩ : ByteArray) ++ l) ++ r))).run Tryd.prog w = .ok v2 w2 := hc2
 have R2 : Hid (RowB w2 v2 (bys ((bNode ++ l) ++ r))) := r2
 have B2 : Hid (Below w.heap.size w w2) := b2
 clear hc2 r2 b2
 go_enter Tryd.func74, Tryd.ntmps74
 go_wp2_with fail
 refine (hash1_any v2 _ w2 R2.out (by rw [HE.out]; exact HL.out)).mono ?_
 rintro e w3 ⟨rfl, b3⟩
 rw [HE.out]
 go_wp2_with fail
 go_ret
 exact ⟨rfl, B2.out.trans (b3.mono B2.out.size)⟩
end Go.Proofs.YtakfniknkejgpaaDoor.Sx
