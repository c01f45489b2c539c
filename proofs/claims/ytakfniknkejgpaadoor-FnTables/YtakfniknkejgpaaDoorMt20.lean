/- Texts put together: ShaL, Fu, Fz. -/
import Derived.Test.YtakfniknkejgpaaDoorMt19
import Derived.BigRegion
import Derived.Test.YtakfniknkejgpaaDoorMt3
import Derived.Lib.SlBytesConst
import Derived.Test.YtakfniknkejgpaaDoorMt18
import Derived.Lib.FrozenHead
/- The specification's l01Hash and Hash. -/
namespace Go.Proofs.YtakfniknkejgpaaDoor.Sh
open Go.RowKit Go.Proofs.YtakfniknkejgpaaDoor.Sl Go.Proofs.YtakfniknkejgpaaDoor.Me

theorem lit8 : (#[.int .u32 1779033703, .int .u32 3144134277, .int .u32 1013904242, .int .u32 2773480762, .int .u32 1359893119, .int .u32 2600822924, .int .u32 528734635, .int .u32 1541459225] : Array Value) = arr8 r0 := rfl
def w8 (w : World) : World := w.alloc (.cells (arr8 r0) 103)
def w9 (w : World) : World := (w.alloc (.cells #[.int .u32 1779033703, .int .u32 3144134277, .int .u32 1013904242, .int .u32 2773480762, .int .u32 1359893119, .int .u32 2600822924, .int .u32 528734635, .int .u32 1541459225] 103)).alloc (.cells #[] 5)
theorem start8 {w : World} {v : Value} {xs : List Int} (h : RowB w v xs) :
 (w8 w).heap.size = w.heap.size + 1 ∧ ArrAt (w8 w) w.heap.size 103 (arr8 r0) ∧ Below w.heap.size w (w8 w) ∧
 RowB (w9 w) v xs ∧ By.OwnB 5 (w9 w) (w.heap.size + 1) (.slice (some ⟨w.heap.size + 1, 0, none⟩) 0 0) [] ∧ Below (w.heap.size + 1) (w8 w) (w9 w) ∧ w.heap.size + 1 ≤ (w9 w).heap.size := by
 have b1 : Below w.heap.size w (w8 w) := (Below.refl _ _).alloc (Nat.le_refl _) _
 have hs : (w8 w).heap.size = w.heap.size + 1 := by simp [w8]
 have e9 : w9 w = (w8 w).alloc (.cells #[] 5) := by unfold w9 w8; rw [lit8]
 rw [e9]
 refine ⟨hs, arrAt_new w _ _, b1, (h.below b1).below ((Below.refl _ _).alloc (Nat.le_refl _) _), ?_, ?_, ?_⟩
 ·rw [← hs]; exact By.own_made 5 (w8 w) _ #[] 0 (Nat.le_refl _) (by simp [maxLen]) rfl
 ·rw [← hs]; exact (Below.refl _ _).alloc (Nat.le_refl _) _
 ·simp; omega

theorem four_eq (x : UInt32) : [IntKind.u8.wrap (nat x / 16777216), IntKind.u8.wrap (nat x / 65536), IntKind.u8.wrap (nat x / 256), IntKind.u8.wrap (nat x)] = [byteOf x 0, byteOf x 1, byteOf x 2, byteOf x 3] := by
 simp [byteOf, IntKind.wrap_u8]

set_option maxRecDepth 100000 in
set_option maxHeartbeats 3200000 in
theorem l01Hash_any (vb : Value) (xs : List Int) (w : World) (h : RowB w vb xs) (hl : xs.length ≤ 65536) :
 Calls Tryd.prog 34 #[vb] w fun e w' => e = .returned (.string (strOfNums (sha xs))) ∧ Below w.heap.size w w' := by
 obtain ⟨i0, hi, hz0, hz1, hz2⟩ := info_parts info5
 have hl' : (xs.length : Int) ≤ 65536 := by omega
 have hst := start8 h
 obtain ⟨ab, capb, rfl, _, hr⟩ := h
 have HRG : Hid (∀ x ∈ xs, 0 ≤ x ∧ x ≤ 255) := hr
 obtain ⟨hsz, hx1, hb1, hre, how, hbe, hse⟩ := hst
 have HX1 : Hid (ArrAt (w8 w) w.heap.size 103 (arr8 r0)) := hx1
 have HB1 : Hid (Below w.heap.size w (w8 w)) := hb1
 have HRE : Hid (RowB (w9 w) (.slice ab xs.length capb) xs) := hre
 have HOW : Hid (By.OwnB 5 (w9 w) (w.heap.size + 1) (.slice (some ⟨w.heap.size + 1, 0, none⟩) 0 0) []) := how
 have HBE : Hid (Below (w.heap.size + 1) (w8 w) (w9 w)) := hbe
 have HSE : Hid (w.heap.size + 1 ≤ (w9 w).heap.size) := hse
 clear hr hsz hx1 hb1 hre how hbe hse
 go_enter Tryd.func34, Tryd.ntmps34
 go_wp2_with (at_builtin; first
  | (refine By.wpList_append_byte (by rfl) _ _ 22 (by rfl) 5 i0 Tryd.underlying22 hi hz0 hz1 hz2 (w.heap.size + 1) (w8 w) w2 _ _ _ (by rfl) hown2 hbel2 hB2 (by rfl) (by simp; omega) ?_; intro v3 w3 hown3 hbel3 hB3)
  | (refine wpList_append_rowB (by rfl) _ _ 22 (by rfl) 5 i0 Tryd.underlying22 hi hz0 hz1 hz2 (w.heap.size + 1) (w8 w) _ _ _ [] xs (by rfl) HOW.out HBE.out HSE.out (by rfl) HRE.out (by simp; omega) ?_; intro v2 w2 hown2 hbel2 hB2))
 have hown0 : By.OwnB 5 w3 (w.heap.size + 1) v3 (midTo xs 0) := by rw [midTo_zero]; exact hown3
 clear hown2 hbel2 hB2 hown3 HOW HBE HSE HRE
 go_loopw [4] (fun v wr => ∃ k : Nat, k ≤ zerosOf xs.length ∧ By.OwnB 5 wr (w.heap.size + 1) v (midTo xs k) ∧ Below (w.heap.size + 1) (w8 w) wr ∧ w.heap.size + 1 ≤ wr.heap.size) (fun v _ => xs.length + 1 + zerosOf xs.length - lenV v)
 case atStart => exact ⟨0, by omega, hown0, hbel3, hB3⟩
 case round =>
  clear hown0 hbel3 hB3
  obtain ⟨k, hk, hown, hbel, hB⟩ := hrel
  have hz64 : zerosOf xs.length < 64 := by unfold zerosOf; omega
  obtain ⟨m, hm⟩ : ∃ m, m = xs.length + 1 + k := ⟨_, rfl⟩
  have hml : (midTo xs k).length = m := by rw [midTo_length, hm]
  have HM : Hid (m = xs.length + 1 + k) := hm
  obtain ⟨ad, cap, rfl, _⟩ := own_open hown hml
  have hmb : m ≤ 65700 := by omega
  by_cases hd : m % 64 = 56
  ·obtain rfl : k = zerosOf xs.length := mid_done (by rw [← hm]; exact hd) hk
   have hd' : (m : Int) % 64 = 56 := by omega
   have hown1 : By.OwnB 5 wr (w.heap.size + 1) (.slice ad m cap) (padTo xs 0) := by rw [padTo_zero]; exact hown
   clear hown hm hml
   go_wp2_with fail
   go_loopw [4, 5] (fun v i wr => ∃ k : Nat, k ≤ 8 ∧ i = .int .i64 (7 - (k : Int)) ∧ By.OwnB 5 wr (w.heap.size + 1) v (padTo xs k) ∧ Below (w.heap.size + 1) (w8 w) wr ∧ w.heap.size + 1 ≤ wr.heap.size) (fun _ i _ => (intOf i + 1).toNat)
   case atStart => exact ⟨0, by omega, rfl, hown1, hbel, hB⟩
   case round =>
    clear hown1 hbel hB hd hd' hk hmb
    obtain ⟨k, hk, rfl, hown, hbel, hB⟩ := hrel
    have hpl := padTo_length xs k hk
    by_cases hlt : k < 8
    ·have hpos : (0 : Int) ≤ 7 - (k : Int) := by omega
     have hl2 : (padTo xs k).length + 1 ≤ 140737488355328 := by omega
     have HPS : Hid (padTo xs (k + 1) = padTo xs k ++ [lenByte xs.length k]) := padTo_succ xs k hlt
     clear hpl
     go_wp2_with (at_builtin; refine By.wpList_append_byte (by rfl) _ _ 22 (by rfl) 5 i0 Tryd.underlying22 hi hz0 hz1 hz2 (w.heap.size + 1) (w8 w) wr _ _ _ (by rfl) hown hbel hB (by rfl) hl2 ?_; intro v' w' hown' hbel' hB')
     exact ⟨⟨k + 1, by omega, by go_num, by rw [HPS.out, ← len_byte _ _ hlt]; exact hown', hbel', hB'⟩, by simp [intOf]; omega⟩
    ·obtain rfl : k = 8 := by omega
     obtain ⟨Q, hQ⟩ : ∃ Q, Q = (xs.length + 72) / 64 := ⟨_, rfl⟩
     have HSHA : Hid (sha xs = out (blksTo (pad xs) Q)) := by show sha xs = _; rw [hQ]; rfl
     have HPR : Hid (∀ x ∈ pad xs, 0 ≤ x ∧ x ≤ 255) := pad_range HRG.out
     obtain ⟨N, hN⟩ : ∃ N, N = 64 * Q := ⟨_, rfl⟩
     have hpn : (pad xs).length = N := by rw [hN, hQ]; exact pad_blocks xs
     have hQ1 : 0 < Q := by omega
     have hQ2 : Q ≤ 1026 := by omega
     have hown8 : By.OwnB 5 wr (w.heap.size + 1) u4 (pad xs) := hown
     clear hown hpl hQ
     generalize pad xs = ps at HSHA HPR hpn hown8
     obtain ⟨ad, cap, rfl, hcs⟩ := own_open hown8 hpn
     obtain ⟨gp, rfl, hgp, hgplt, hcap, hcells⟩ := hcs (by omega)
     have hXr := HX1.out.below hbel (by omega)
     have hXc := hXr.alloc (.cells kArr 103)
     have hKc := arrAt_new wr 103 kArr
     have hbc : Below w.heap.size w (wr.alloc (.cells kArr 103)) := (HB1.out.trans (hbel.mono (by omega))).alloc (by omega) _
     have hcc : ∀ i, i < N → (wr.alloc (.cells kArr 103)).cell? ⟨gp, i, none⟩ = some (.int .u8 (nth ps i)) := fun i hi => by rw [World.cell?_alloc_past _ _ _ hgplt]; exact hcells i hi
     have hgpc : gp < (wr.alloc (.cells kArr 103)).heap.size := by simp; omega
     have HXC : Hid _ := hXc
     have HKC : Hid _ := hKc
     have HBC : Hid _ := hbc
     have HCC : Hid _ := hcc
     have HGP : Hid _ := hgpc
     have HPN : Hid _ := hpn
     clear hXr hXc hKc hbc hcc hgpc hcells hcs hown8 hpn hbel
     go_wp2_with fail
     refine (l01Consts_any _).mono ?_
     rintro e wc ⟨rfl, rfl⟩
     generalize wr.alloc (.cells kArr 103) = wc at HXC HKC HBC HCC HGP ⊢
     generalize wr.heap.size = gk at HKC hB hgplt ⊢
     have hM0 : (N : Int) ≤ 64 * (Q : Int) := by omega
     have hM1 : 64 * (Q : Int) ≤ (N : Int) := by omega
     go_wp2_with fail
     go_loopw [7] (fun i wq => ∃ q : Nat, q ≤ Q ∧ i = .int .i64 (64 * (q : Int)) ∧ wc.grownBy wq (some w.heap.size) ∧ ArrAt wq w.heap.size 103 (arr8 (blksTo ps q))) (fun i _ => 64 * Q - (intOf i).toNat)
     case atStart => exact ⟨0, by omega, rfl, ⟨rfl, rfl, rfl, Nat.le_refl _, fun _ _ _ => rfl⟩, HXC.out⟩
     case round =>
      obtain ⟨q, hq, rfl, hgr, hX⟩ := hrel
      have HB : Hid (blksTo ps (q + 1) = blk (blksTo ps q) (cut ps q)) := rfl
      by_cases hlt : q < Q
      ·have p0 : (0 : Int) ≤ 64 * (q : Int) := by omega
       have p1 : 64 * (q : Int) + 64 ≤ (N : Int) := by omega
       have p2 : 64 * (q : Int) ≤ 64 * (q : Int) + 64 := by omega
       generalize blksTo ps q = r at hX HB
       have HCR : Hid (RowB wr (.slice (some ⟨gp, 64 * q, none⟩) 64 (cap - 64 * q)) (cut ps q) ∧ (cut ps q).length = 64) := by
        have hne : some gp ≠ some w.heap.size := by intro e; cases e; omega
        have := cut_row (w := wr) (ps := ps) (b := gp) (off := 0) (Nat.lt_of_lt_of_le HGP.out hgr.size) (fun i hi => by rw [Nat.zero_add]; exact (hgr.cell_far ⟨gp, i, none⟩ HGP.out hne).trans (HCC.out i (by rw [← HPN.out]; exact hi))) HPR.out q (by rw [HPN.out]; omega) (cap - 64 * q) (by omega)
        rw [Nat.zero_add] at this
        exact this
       have hKq : ArrAt wr gk 103 kArr := ArrAt.grown (A := kArr) HKC.out hgr (by intro e; cases e; omega)
       have hsl := slice64c N cap gp q (by omega) hcap
       have hwr : IntKind.i64.wrap (64 * (q : Int) + 64) = 64 * (q : Int) + 64 := by rw [IntKind.wrap_i64]; omega
       go_wp2_with (go_at_call 65; go_must (refine (l01Block_any r (cut ps q) _ w.heap.size gk kArr _ hX hKq kArr_at HCR.out.1 HCR.out.2).mono ?_; rintro e w2 ⟨rfl, hX2, hg2⟩))
       exact ⟨⟨q + 1, by omega, by go_num, hgr.trans hg2, by rw [HB.out]; exact hX2⟩, by simp [intOf]; omega⟩
      ·obtain rfl : q = Q := by omega
       clear HB
       have hbq : Below w.heap.size w wr := HBC.out.grown hgr HBC.out.size (fun k hk => by cases hk; exact Nat.le_refl _)
       have HBQ : Hid (Below w.heap.size w wr) := hbq
       clear hgr hbq HCC HGP HKC HXC HBC
       generalize blksTo ps q = R at hX HSHA
       obtain ⟨wz, hwz⟩ : ∃ wz, wz = wr := ⟨_, rfl⟩
       subst hwz
       have HXQ : Hid (ArrAt wz w.heap.size 103 (arr8 R)) := hX
       have hXlt : w.heap.size < wz.heap.size := hX.lt
       go_wp2_with fail
       go_loopw [8, 9] (fun v i wo => ∃ k : Nat, k ≤ 8 ∧ i = .int .i64 k ∧ By.OwnB 5 wo wz.heap.size v (outTo R k) ∧ Below wz.heap.size wz wo ∧ wz.heap.size ≤ wo.heap.size) (fun _ i _ => 8 - (intOf i).toNat)
       case atStart => exact ⟨0, by omega, rfl, By.own_made 5 wz wz.heap.size #[] 0 (Nat.le_refl _) (by simp [maxLen]) rfl, (Below.refl _ _).alloc (Nat.le_refl _) _, by simp⟩
       case round =>
        clear hX
        obtain ⟨k, hk, rfl, hown, hbel, hBo⟩ := hrel
        by_cases hlt : k < 8
        ·have cr : wr.cell? ⟨w.heap.size, k, none⟩ = some (.int .u32 (nat (at8 R k))) := ((HXQ.out.below hbel hXlt).cell k).trans (arr8_at R k hlt)
         have HOS : Hid (outTo R (k + 1) = outTo R k ++ [byteOf (at8 R k) 0, byteOf (at8 R k) 1, byteOf (at8 R k) 2, byteOf (at8 R k) 3]) := outTo_succ R k
         have hl2 : (outTo R k).length + 4 ≤ 140737488355328 := by rw [outTo_length]; omega
         generalize at8 R k = x at cr HOS
         have q0 : (0 : Int) ≤ (k : Int) := by omega
         have q1 : (k : Int) < 8 := by omega
         go_wp2_with fail
         go_region_law ((refine step_append_four (by rfl) _ _ 22 (by rfl) 5 i0 Tryd.underlying22 hi hz0 hz1 hz2 wz.heap.size wz wr _ _ _ _ _ _ (by rfl) hown hbel hBo (by rfl) hl2 ?_; intro v' w' hown' hbel' hB'))
         all_goals
          have hown2 : By.OwnB 5 w' wz.heap.size v' (outTo R (k + 1)) := by rw [HOS.out, ← four_eq]; exact hown'
          clear hown hown' hbel
          go_wp2
          go_roundw
          case rel => exact ⟨k + 1, by omega, by go_num, hown2, hbel', hB'⟩
          case measure => simp [intOf]; omega
        ·obtain rfl : k = 8 := by omega
         have hcv := By.run_convert_own (P := Tryd.prog) wr wz.heap.size 22 5 9 Tryd.underlying22 Tryd.underlying5 Tryd.underlying9 u8 _ hown
         clear hown
         go_wp2_with fail
         go_ret
         exact ⟨ret_str (by rw [HSHA.out]; rfl), HBQ.out.trans (hbel.mono HBQ.out.size)⟩
  ·have hd' : ¬ (m : Int) % 64 = 56 := by omega
   have hk2 : k ≠ zerosOf xs.length := fun e => hd (by rw [hm, e]; exact mid_end _)
   have hl2 : (midTo xs k).length + 1 ≤ 140737488355328 := by omega
   have HMS : Hid (midTo xs (k + 1) = midTo xs k ++ [0]) := midTo_succ xs k
   clear hm
   go_wp2_with (at_builtin; go_must (refine By.wpList_append_byte (by rfl) _ _ 22 (by rfl) 5 i0 Tryd.underlying22 hi hz0 hz1 hz2 (w.heap.size + 1) (w8 w) wr _ _ _ (by rfl) hown hbel hB (by rfl) hl2 ?_; intro v' w' hown' hbel' hB'; obtain ⟨ad', cap', rfl, _⟩ := own_open (n := m + 1) hown' (by rw [List.length_append, hml]; rfl)))
   exact ⟨⟨k + 1, by omega, by rw [HMS.out]; exact hown', hbel', hB'⟩, by have := HM.out; simp [lenV]; omega⟩
end Go.Proofs.YtakfniknkejgpaaDoor.Sh

/- Bytes that began as a literal: the first append makes a row of the call's own. -/
namespace Go.Proofs.YtakfniknkejgpaaDoor.Fu
open Go.RowKit Go.Proofs.YtakfniknkejgpaaDoor.Sl Go.Proofs.YtakfniknkejgpaaDoor.By Go.Proofs.YtakfniknkejgpaaDoor.Ap Go.Proofs.YtakfniknkejgpaaDoor.Tx

def Full (w : World) (B : Nat) (v : Value) (zs : List Int) : Prop :=
 ∃ g, v = .slice (some ⟨g, 0, none⟩) zs.length zs.length ∧ B ≤ g ∧ g < w.heap.size ∧ ∀ j, j < zs.length → w.cell? ⟨g, j, none⟩ = some (.int .u8 (nth zs j))
def OwnF (w : World) (B : Nat) (v : Value) (zs : List Int) : Prop := OwnB 5 w B v zs ∨ Full w B v zs
theorem OwnF.below {w w' : World} {B : Nat} {v : Value} {zs : List Int} (h : OwnF w B v zs) (hb : Below w.heap.size w w') : OwnF w' B v zs := by
 rcases h with h | ⟨g, e, hB, hg, hc⟩
 ·exact .inl (own_below h hb)
 ·exact .inr ⟨g, e, hB, Nat.lt_of_lt_of_le hg hb.size, fun j hj => (hb.cell (p := ⟨g, j, none⟩) hg).trans (hc j hj)⟩
theorem OwnF.drew {w : World} {B : Nat} {v : Value} {zs : List Int} (h : OwnF w B v zs) : OwnF w.drew B v zs := h
theorem full_lit (w : World) (zs : List Int) (n : Nat) (hn : zs.length = n) (cs : Array Value) (hcs : cs = (zs.map (Value.int .u8)).toArray) (fr : Nat × Nat) : OwnF (w.alloc (.cells cs 5 fr)) w.heap.size (.slice (some ⟨w.heap.size, 0, none⟩) n n) zs := by
 subst hn hcs
 refine .inr ⟨w.heap.size, rfl, Nat.le_refl _, by simp, fun j hj => ?_⟩
 rw [Joins.cell_of_block (heap_alloc_new w _) j, List.getElem?_toArray, List.getElem?_map, List.getElem?_eq_getElem hj]
 unfold nth
 rw [List.getD_eq_getElem?_getD, List.getElem?_eq_getElem hj]
 rfl
end Go.Proofs.YtakfniknkejgpaaDoor.Fu

/- 'append([]byte(s), b...)': onto the row of a conversion. -/
namespace Go.Proofs.YtakfniknkejgpaaDoor.Fz
open Go.RowKit Go.Proofs.YtakfniknkejgpaaDoor.Sl Go.Proofs.YtakfniknkejgpaaDoor.By Go.Proofs.YtakfniknkejgpaaDoor.Ap Go.Proofs.YtakfniknkejgpaaDoor.Tx Go.Proofs.YtakfniknkejgpaaDoor.Ho

def Conv (w : World) (g cap : Nat) (zs : List Int) : Prop :=
 ∃ cur fz, w.heap[g]? = some (.cells cur 5 fz) ∧ cur.size ≤ fz.1 ∧ cur.size = cap ∧ zs.length ≤ cap ∧ ∀ i, i < zs.length → cur[i]? = some (.int .u8 (nth zs i))
theorem nth8 {xs : List Int} {i : Nat} (h : i < xs.length) : xs[i]? = some (nth xs i) := by
 unfold nth; rw [List.getD_eq_getElem?_getD, List.getElem?_eq_getElem h]; rfl
theorem Conv.cell {w : World} {g cap : Nat} {zs : List Int} (h : Conv w g cap zs) {i : Nat} (hi : i < zs.length) : w.cell? ⟨g, i, none⟩ = some (.int .u8 (nth zs i)) := by
 obtain ⟨cur, fz, h1, _, _, _, h2⟩ := h
 exact (Joins.cell_of_block h1 i).trans (h2 i hi)
theorem range_append {xs ys : List Int} (h : ∀ x ∈ xs, 0 ≤ x ∧ x ≤ 255) (g : ∀ x ∈ ys, 0 ≤ x ∧ x ≤ 255) : ∀ x ∈ xs ++ ys, 0 ≤ x ∧ x ≤ 255 := by
 intro x hx
 rcases List.mem_append.1 hx with hx | hx
 ·exact h x hx
 ·exact g x hx
end Go.Proofs.YtakfniknkejgpaaDoor.Fz
