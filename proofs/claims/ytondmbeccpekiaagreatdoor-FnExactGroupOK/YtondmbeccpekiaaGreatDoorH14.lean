/- Texts put together: ShaL, Fu, Fp. -/
import Derived.Test.YtondmbeccpekiaaGreatDoorH13
import Derived.BigRegion
import Derived.Test.YtondmbeccpekiaaGreatDoorH9
import Derived.Lib.SlBytesConst
import Derived.Test.YtondmbeccpekiaaGreatDoorH12
import Derived.Test.YtondmbeccpekiaaGreatDoorH7
/- The specification's l01Hash and Hash. -/
namespace Go.Proofs.YtondmbeccpekiaaGreatDoor.Sh
open Go.RowKit Go.Proofs.YtondmbeccpekiaaGreatDoor.Sl Go.Proofs.YtondmbeccpekiaaGreatDoor.Me

theorem lit8 : (#[.int .u32 1779033703, .int .u32 3144134277, .int .u32 1013904242, .int .u32 2773480762, .int .u32 1359893119, .int .u32 2600822924, .int .u32 528734635, .int .u32 1541459225] : Array Value) = arr8 r0 := rfl
def w8 (w : World) : World := w.alloc (.cells (arr8 r0) 166)
def w9 (w : World) : World := (w.alloc (.cells #[.int .u32 1779033703, .int .u32 3144134277, .int .u32 1013904242, .int .u32 2773480762, .int .u32 1359893119, .int .u32 2600822924, .int .u32 528734635, .int .u32 1541459225] 166)).alloc (.cells #[] 5)
theorem start8 {w : World} {v : Value} {xs : List Int} (h : RowB w v xs) :
    (w8 w).heap.size = w.heap.size + 1 ∧ ArrAt (w8 w) w.heap.size 166 (arr8 r0) ∧ Below w.heap.size w (w8 w) ∧
    RowB (w9 w) v xs ∧ By.OwnB 5 (w9 w) (w.heap.size + 1) (.slice (some ⟨w.heap.size + 1, 0, none⟩) 0 0) [] ∧ Below (w.heap.size + 1) (w8 w) (w9 w) ∧ w.heap.size + 1 ≤ (w9 w).heap.size := by
  have b1 : Below w.heap.size w (w8 w) := (Below.refl _ _).alloc (Nat.le_refl _) _
  have hs : (w8 w).heap.size = w.heap.size + 1 := by simp [w8]
  have e9 : w9 w = (w8 w).alloc (.cells #[] 5) := by unfold w9 w8; rw [lit8]
  rw [e9]
  refine ⟨hs, arrAt_new w _ _, b1, (h.below b1).below ((Below.refl _ _).alloc (Nat.le_refl _) _), ?_, ?_, ?_⟩
  · rw [← hs]; exact By.own_made 5 (w8 w) _ #[] 0 (Nat.le_refl _) (by simp [maxLen]) rfl
  · rw [← hs]; exact (Below.refl _ _).alloc (Nat.le_refl _) _
  · simp; omega

theorem four_eq (x : UInt32) : [IntKind.u8.wrap (nat x / 16777216), IntKind.u8.wrap (nat x / 65536), IntKind.u8.wrap (nat x / 256), IntKind.u8.wrap (nat x)] = [byteOf x 0, byteOf x 1, byteOf x 2, byteOf x 3] := by
  simp [byteOf, IntKind.wrap_u8]

set_option maxRecDepth 100000 in
set_option maxHeartbeats 3200000 in
theorem l01Hash_any (vb : Value) (xs : List Int) (w : World) (h : RowB w vb xs) (hl : xs.length ≤ 65536) :
    Calls Tryz.prog 96 #[vb] w fun e w' => e = .returned (.string (strOfNums (sha xs))) ∧ Below w.heap.size w w' := by
  obtain ⟨i0, hi, hz0, hz1, hz2⟩ := info_parts info5
  have hl' : (xs.length : Int) ≤ 65536 := by omega
  have hst := start8 h
  obtain ⟨ab, capb, rfl, _, hr⟩ := h
  have HRG : Hid (∀ x ∈ xs, 0 ≤ x ∧ x ≤ 255) := hr
  obtain ⟨hsz, hx1, hb1, hre, how, hbe, hse⟩ := hst
  have HX1 : Hid (ArrAt (w8 w) w.heap.size 166 (arr8 r0)) := hx1
  have HB1 : Hid (Below w.heap.size w (w8 w)) := hb1
  have HRE : Hid (RowB (w9 w) (.slice ab xs.length capb) xs) := hre
  have HOW : Hid (By.OwnB 5 (w9 w) (w.heap.size + 1) (.slice (some ⟨w.heap.size + 1, 0, none⟩) 0 0) []) := how
  have HBE : Hid (Below (w.heap.size + 1) (w8 w) (w9 w)) := hbe
  have HSE : Hid (w.heap.size + 1 ≤ (w9 w).heap.size) := hse
  clear hr hsz hx1 hb1 hre how hbe hse
  go_enter Tryz.func96, Tryz.ntmps96
  go_wp2_with (at_builtin; first
    | (refine By.wpList_append_byte (by rfl) _ _ 107 (by rfl) 5 i0 Tryz.underlying107 hi hz0 hz1 hz2 (w.heap.size + 1) (w8 w) w2 _ _ _ (by rfl) hown2 hbel2 hB2 (by rfl) (by simp; omega) ?_; intro v3 w3 hown3 hbel3 hB3)
    | (refine wpList_append_rowB (by rfl) _ _ 107 (by rfl) 5 i0 Tryz.underlying107 hi hz0 hz1 hz2 (w.heap.size + 1) (w8 w) _ _ _ [] xs (by rfl) HOW.out HBE.out HSE.out (by rfl) HRE.out (by simp; omega) ?_; intro v2 w2 hown2 hbel2 hB2))
  have hown0 : By.OwnB 5 w3 (w.heap.size + 1) v3 (midTo xs 0) := by rw [midTo_zero]; exact hown3
  clear hown2 hbel2 hB2 hown3 HOW HBE HSE HRE
  go_loopw [4] (fun v wr => ∃ k : Nat, k ≤ zerosOf xs.length ∧ By.OwnB 5 wr (w.heap.size + 1) v (midTo xs k) ∧ Below (w.heap.size + 1) (w8 w) wr ∧ w.heap.size + 1 ≤ wr.heap.size) (fun v _ => xs.length + 1 + zerosOf xs.length - lenV v)
  case atStart => exact ⟨0, by omega, hown0, hbel3, hB3⟩
  case round =>
    clear hown0 hbel3 hB3
    obtain ⟨k, hk, hown, hbel, hB⟩ := hrel
    have hz64 : zerosOf xs.length < 64 := by unfold zerosOf; omega
    obtain ⟨m, hm⟩ : ∃ m, m = xs.length + 1 + k := ⟨_, rfl⟩
    have hml : (midTo xs k).length = m := by rw [midTo_length, hm]
    have HM : Hid (m = xs.length + 1 + k) := hm
    obtain ⟨ad, cap, rfl, _⟩ := own_open hown hml
    have hmb : m ≤ 65700 := by omega
    by_cases hd : m % 64 = 56
    · obtain rfl : k = zerosOf xs.length := mid_done (by rw [← hm]; exact hd) hk
      have hd' : (m : Int) % 64 = 56 := by omega
      have hown1 : By.OwnB 5 wr (w.heap.size + 1) (.slice ad m cap) (padTo xs 0) := by rw [padTo_zero]; exact hown
      clear hown hm hml
      go_wp2_with fail
      go_loopw [4, 5] (fun v i wr => ∃ k : Nat, k ≤ 8 ∧ i = .int .i64 (7 - (k : Int)) ∧ By.OwnB 5 wr (w.heap.size + 1) v (padTo xs k) ∧ Below (w.heap.size + 1) (w8 w) wr ∧ w.heap.size + 1 ≤ wr.heap.size) (fun _ i _ => (intOf i + 1).toNat)
      case atStart => exact ⟨0, by omega, rfl, hown1, hbel, hB⟩
      case round =>
        clear hown1 hbel hB hd hd' hk hmb
        obtain ⟨k, hk, rfl, hown, hbel, hB⟩ := hrel
        have hpl := padTo_length xs k hk
        by_cases hlt : k < 8
        · have hpos : (0 : Int) ≤ 7 - (k : Int) := by omega
          have hl2 : (padTo xs k).length + 1 ≤ 140737488355328 := by omega
          have HPS : Hid (padTo xs (k + 1) = padTo xs k ++ [lenByte xs.length k]) := padTo_succ xs k hlt
          clear hpl
          go_wp2_with (at_builtin; refine By.wpList_append_byte (by rfl) _ _ 107 (by rfl) 5 i0 Tryz.underlying107 hi hz0 hz1 hz2 (w.heap.size + 1) (w8 w) wr _ _ _ (by rfl) hown hbel hB (by rfl) hl2 ?_; intro v' w' hown' hbel' hB')
          exact ⟨⟨k + 1, by omega, by go_num, by rw [HPS.out, ← len_byte _ _ hlt]; exact hown', hbel', hB'⟩, by simp [intOf]; omega⟩
        · obtain rfl : k = 8 := by omega
          obtain ⟨Q, hQ⟩ : ∃ Q, Q = (xs.length + 72) / 64 := ⟨_, rfl⟩
          have HSHA : Hid (sha xs = out (blksTo (pad xs) Q)) := by show sha xs = _; rw [hQ]; rfl
          have HPR : Hid (∀ x ∈ pad xs, 0 ≤ x ∧ x ≤ 255) := pad_range HRG.out
          obtain ⟨N, hN⟩ : ∃ N, N = 64 * Q := ⟨_, rfl⟩
          have hpn : (pad xs).length = N := by rw [hN, hQ]; exact pad_blocks xs
          have hQ1 : 0 < Q := by omega
          have hQ2 : Q ≤ 1026 := by omega
          have hown8 : By.OwnB 5 wr (w.heap.size + 1) u4 (pad xs) := hown
          clear hown hpl hQ
          generalize pad xs = ps at HSHA HPR hpn hown8
          obtain ⟨ad, cap, rfl, hcs⟩ := own_open hown8 hpn
          obtain ⟨gp, rfl, hgp, hgplt, hcap, hcells⟩ := hcs (by omega)
          have hXr := HX1.out.below hbel (by omega)
          have hXc := hXr.alloc (.cells kArr 166)
          have hKc := arrAt_new wr 166 kArr
          have hbc : Below w.heap.size w (wr.alloc (.cells kArr 166)) := (HB1.out.trans (hbel.mono (by omega))).alloc (by omega) _
          have hcc : ∀ i, i < N → (wr.alloc (.cells kArr 166)).cell? ⟨gp, i, none⟩ = some (.int .u8 (nth ps i)) := fun i hi => by rw [World.cell?_alloc_past _ _ _ hgplt]; exact hcells i hi
          have hgpc : gp < (wr.alloc (.cells kArr 166)).heap.size := by simp; omega
          have HXC : Hid _ := hXc
          have HKC : Hid _ := hKc
          have HBC : Hid _ := hbc
          have HCC : Hid _ := hcc
          have HGP : Hid _ := hgpc
          have HPN : Hid _ := hpn
          clear hXr hXc hKc hbc hcc hgpc hcells hcs hown8 hpn hbel
          go_wp2_with fail
          refine (l01Consts_any _).mono ?_
          rintro e wc ⟨rfl, rfl⟩
          generalize wr.alloc (.cells kArr 166) = wc at HXC HKC HBC HCC HGP ⊢
          generalize wr.heap.size = gk at HKC hB hgplt ⊢
          have hM0 : (N : Int) ≤ 64 * (Q : Int) := by omega
          have hM1 : 64 * (Q : Int) ≤ (N : Int) := by omega
          go_wp2_with fail
          go_loopw [7] (fun i wq => ∃ q : Nat, q ≤ Q ∧ i = .int .i64 (64 * (q : Int)) ∧ wc.grownBy wq (some w.heap.size) ∧ ArrAt wq w.heap.size 166 (arr8 (blksTo ps q))) (fun i _ => 64 * Q - (intOf i).toNat)
          case atStart => exact ⟨0, by omega, rfl, ⟨rfl, rfl, rfl, Nat.le_refl _, fun _ _ _ => rfl⟩, HXC.out⟩
          case round =>
            obtain ⟨q, hq, rfl, hgr, hX⟩ := hrel
            have HB : Hid (blksTo ps (q + 1) = blk (blksTo ps q) (cut ps q)) := rfl
            by_cases hlt : q < Q
            · have p0 : (0 : Int) ≤ 64 * (q : Int) := by omega
              have p1 : 64 * (q : Int) + 64 ≤ (N : Int) := by omega
              have p2 : 64 * (q : Int) ≤ 64 * (q : Int) + 64 := by omega
              generalize blksTo ps q = r at hX HB
              have HCR : Hid (RowB wr (.slice (some ⟨gp, 64 * q, none⟩) 64 (cap - 64 * q)) (cut ps q) ∧ (cut ps q).length = 64) := by
                have hne : some gp ≠ some w.heap.size := by intro e; cases e; omega
                have := cut_row (w := wr) (ps := ps) (b := gp) (off := 0) (Nat.lt_of_lt_of_le HGP.out hgr.size) (fun i hi => by rw [Nat.zero_add]; exact (hgr.cell_far ⟨gp, i, none⟩ HGP.out hne).trans (HCC.out i (by rw [← HPN.out]; exact hi))) HPR.out q (by rw [HPN.out]; omega) (cap - 64 * q) (by omega)
                rw [Nat.zero_add] at this
                exact this
              have hKq : ArrAt wr gk 166 kArr := ArrAt.grown (A := kArr) HKC.out hgr (by intro e; cases e; omega)
              have hsl := slice64c N cap gp q (by omega) hcap
              have hwr : IntKind.i64.wrap (64 * (q : Int) + 64) = 64 * (q : Int) + 64 := by rw [IntKind.wrap_i64]; omega
              go_wp2_with (go_at_call 123; go_must (refine (l01Block_any r (cut ps q) _ w.heap.size gk kArr _ hX hKq kArr_at HCR.out.1 HCR.out.2).mono ?_; rintro e w2 ⟨rfl, hX2, hg2⟩))
              exact ⟨⟨q + 1, by omega, by go_num, hgr.trans hg2, by rw [HB.out]; exact hX2⟩, by simp [intOf]; omega⟩
            · obtain rfl : q = Q := by omega
              clear HB
              have hbq : Below w.heap.size w wr := HBC.out.grown hgr HBC.out.size (fun k hk => by cases hk; exact Nat.le_refl _)
              have HBQ : Hid (Below w.heap.size w wr) := hbq
              clear hgr hbq HCC HGP HKC HXC HBC
              generalize blksTo ps q = R at hX HSHA
              obtain ⟨wz, hwz⟩ : ∃ wz, wz = wr := ⟨_, rfl⟩
              subst hwz
              have HXQ : Hid (ArrAt wz w.heap.size 166 (arr8 R)) := hX
              have hXlt : w.heap.size < wz.heap.size := hX.lt
              go_wp2_with fail
              go_loopw [8, 9] (fun v i wo => ∃ k : Nat, k ≤ 8 ∧ i = .int .i64 k ∧ By.OwnB 5 wo wz.heap.size v (outTo R k) ∧ Below wz.heap.size wz wo ∧ wz.heap.size ≤ wo.heap.size) (fun _ i _ => 8 - (intOf i).toNat)
              case atStart => exact ⟨0, by omega, rfl, By.own_made 5 wz wz.heap.size #[] 0 (Nat.le_refl _) (by simp [maxLen]) rfl, (Below.refl _ _).alloc (Nat.le_refl _) _, by simp⟩
              case round =>
                clear hX
                obtain ⟨k, hk, rfl, hown, hbel, hBo⟩ := hrel
                by_cases hlt : k < 8
                · have cr : wr.cell? ⟨w.heap.size, k, none⟩ = some (.int .u32 (nat (at8 R k))) := ((HXQ.out.below hbel hXlt).cell k).trans (arr8_at R k hlt)
                  have HOS : Hid (outTo R (k + 1) = outTo R k ++ [byteOf (at8 R k) 0, byteOf (at8 R k) 1, byteOf (at8 R k) 2, byteOf (at8 R k) 3]) := outTo_succ R k
                  have hl2 : (outTo R k).length + 4 ≤ 140737488355328 := by rw [outTo_length]; omega
                  generalize at8 R k = x at cr HOS
                  have q0 : (0 : Int) ≤ (k : Int) := by omega
                  have q1 : (k : Int) < 8 := by omega
                  go_wp2_with fail
                  go_region_law ((refine step_append_four (by rfl) _ _ 107 (by rfl) 5 i0 Tryz.underlying107 hi hz0 hz1 hz2 wz.heap.size wz wr _ _ _ _ _ _ (by rfl) hown hbel hBo (by rfl) hl2 ?_; intro v' w' hown' hbel' hB'))
                  all_goals
                    have hown2 : By.OwnB 5 w' wz.heap.size v' (outTo R (k + 1)) := by rw [HOS.out, ← four_eq]; exact hown'
                    clear hown hown' hbel
                    go_wp2
                    go_roundw
                    case rel => exact ⟨k + 1, by omega, by go_num, hown2, hbel', hB'⟩
                    case measure => simp [intOf]; omega
                · obtain rfl : k = 8 := by omega
                  have hcv := By.run_convert_own (P := Tryz.prog) wr wz.heap.size 107 5 9 Tryz.underlying107 Tryz.underlying5 Tryz.underlying9 u8 _ hown
                  clear hown
                  go_wp2_with fail
                  go_ret
                  exact ⟨ret_str (by rw [HSHA.out]; rfl), HBQ.out.trans (hbel.mono HBQ.out.size)⟩
    · have hd' : ¬ (m : Int) % 64 = 56 := by omega
      have hk2 : k ≠ zerosOf xs.length := fun e => hd (by rw [hm, e]; exact mid_end _)
      have hl2 : (midTo xs k).length + 1 ≤ 140737488355328 := by omega
      have HMS : Hid (midTo xs (k + 1) = midTo xs k ++ [0]) := midTo_succ xs k
      clear hm
      go_wp2_with (at_builtin; go_must (refine By.wpList_append_byte (by rfl) _ _ 107 (by rfl) 5 i0 Tryz.underlying107 hi hz0 hz1 hz2 (w.heap.size + 1) (w8 w) wr _ _ _ (by rfl) hown hbel hB (by rfl) hl2 ?_; intro v' w' hown' hbel' hB'; obtain ⟨ad', cap', rfl, _⟩ := own_open (n := m + 1) hown' (by rw [List.length_append, hml]; rfl)))
      exact ⟨⟨k + 1, by omega, by rw [HMS.out]; exact hown', hbel', hB'⟩, by have := HM.out; simp [lenV]; omega⟩
end Go.Proofs.YtondmbeccpekiaaGreatDoor.Sh

/- Bytes that began as a literal: the first append makes a row of the call's own. -/
namespace Go.Proofs.YtondmbeccpekiaaGreatDoor.Fu
open Go.RowKit Go.Proofs.YtondmbeccpekiaaGreatDoor.Sl Go.Proofs.YtondmbeccpekiaaGreatDoor.By Go.Proofs.YtondmbeccpekiaaGreatDoor.Ap Go.Proofs.YtondmbeccpekiaaGreatDoor.Tx

def Full (w : World) (B : Nat) (v : Value) (zs : List Int) : Prop :=
  ∃ g, v = .slice (some ⟨g, 0, none⟩) zs.length zs.length ∧ B ≤ g ∧ g < w.heap.size ∧ ∀ j, j < zs.length → w.cell? ⟨g, j, none⟩ = some (.int .u8 (nth zs j))
def OwnF (w : World) (B : Nat) (v : Value) (zs : List Int) : Prop := OwnB 5 w B v zs ∨ Full w B v zs
theorem OwnF.below {w w' : World} {B : Nat} {v : Value} {zs : List Int} (h : OwnF w B v zs) (hb : Below w.heap.size w w') : OwnF w' B v zs := by
  rcases h with h | ⟨g, e, hB, hg, hc⟩
  · exact .inl (own_below h hb)
  · exact .inr ⟨g, e, hB, Nat.lt_of_lt_of_le hg hb.size, fun j hj => (hb.cell (p := ⟨g, j, none⟩) hg).trans (hc j hj)⟩
theorem OwnF.drew {w : World} {B : Nat} {v : Value} {zs : List Int} (h : OwnF w B v zs) : OwnF w.drew B v zs := h
theorem full_lit (w : World) (zs : List Int) (n : Nat) (hn : zs.length = n) (cs : Array Value) (hcs : cs = (zs.map (Value.int .u8)).toArray) (fr : Nat × Nat) : OwnF (w.alloc (.cells cs 5 fr)) w.heap.size (.slice (some ⟨w.heap.size, 0, none⟩) n n) zs := by
  subst hn hcs
  refine .inr ⟨w.heap.size, rfl, Nat.le_refl _, by simp, fun j hj => ?_⟩
  rw [Joins.cell_of_block (heap_alloc_new w _) j, List.getElem?_toArray, List.getElem?_map, List.getElem?_eq_getElem hj]
  unfold nth
  rw [List.getD_eq_getElem?_getD, List.getElem?_eq_getElem hj]
  rfl
end Go.Proofs.YtondmbeccpekiaaGreatDoor.Fu

/- A number's bytes behind a constant's: impl.putNumber onto '[]byte("..")'. -/
namespace Go.Proofs.YtondmbeccpekiaaGreatDoor.Fu
open Go.RowKit Go.Proofs.YtondmbeccpekiaaGreatDoor.Sl Go.Proofs.YtondmbeccpekiaaGreatDoor.By Go.Proofs.YtondmbeccpekiaaGreatDoor.Ap Go.Proofs.YtondmbeccpekiaaGreatDoor.Tx Go.Proofs.YtondmbeccpekiaaGreatDoor.Ho Go.Proofs.YtondmbeccpekiaaGreatDoor.Fz Go.Proofs.YtondmbeccpekiaaGreatDoor.Pu

theorem run_rowF {P : Program} {i : TypeInfo} (t ty : TypeId) (ht : P.underlying t = some (.slice 5)) (hi : P.info? 5 = some i) (hz : i.zero = some (.int .u8 0)) (hsize : i.size = 1) (hby : i.bytes = 1)
    (B : Nat) (W : World) (v u : Value) (zs xs : List Int) (hown : OwnF W B v zs) (hB : B ≤ W.heap.size) (hu : RowB W u xs) (hne : xs ≠ []) (hlen : zs.length + xs.length ≤ 1000000000) :
    ∃ v' w', (Builtin.append_ #[t, t] ty #[v, u]).run P W = .ok v' w' ∧ OwnB 5 w' B v' (zs ++ xs) ∧ Below B W w' := by
  rcases hown with hown | ⟨g, rfl, hg, hlt, hc⟩
  · obtain ⟨v', w', h1, h2, h3⟩ := run_row (P := P) t ty ht hi hz hsize hby B W v u zs xs hown hB hu (by omega)
    exact ⟨v', w', h1, h2, h3.below hown hB⟩
  · obtain ⟨a, c, rfl, hu, hrx⟩ := hu
    rcases hu with hu | ⟨b, off, rfl, hcx, hbx, hcell⟩
    · exact absurd hu hne
    have hpos : 0 < xs.length := by cases xs with | nil => exact absurd rfl hne | cons x l => simp
    have hnews : ∀ j v, (xs.map (Value.int .u8))[j]? = some v → W.cell? ((⟨b, off, none⟩ : Addr).add j) = some v := by
      intro j v hj
      have hj' : j < xs.length := by have := (List.getElem?_eq_some_iff.1 hj).1; simpa using this
      rw [addr_add, hcell j hj', ← hj, List.getElem?_map, nth8 hj']
      rfl
    have holds : ∀ j u, (zs.map (Value.int .u8))[j]? = some u → W.cell? ((⟨g, 0, none⟩ : Addr).add j) = some u := by
      intro j u hj
      have hj' : j < zs.length := by have := (List.getElem?_eq_some_iff.1 hj).1; simpa using this
      rw [addr_add, Nat.zero_add, hc j hj', ← hj, List.getElem?_map, nth8 hj']
      rfl
    have hr := run_append_grow (P := P) W t ty 5 i (.int .u8 0) ht hi hz ⟨g, 0, none⟩ zs.length zs.length (zs.map (Value.int .u8)) (by rw [hsize]; simp) holds ⟨b, off, none⟩ xs.length c (xs.map (Value.int .u8)) (by rw [hsize]; simp) hnews (by omega) (by omega) (by rw [hby]; exact growslice_fits (by omega) (by omega))
    refine ⟨_, _, hr, ?_, ⟨rfl, rfl, rfl, by simp, fun k hk => heap_alloc_old W.drew _ (show k < W.heap.size by omega)⟩⟩
    have hge := grownCap_ge W (zs.length + xs.length) zs.length 5
    have hcm : grownCap W (zs.length + xs.length) zs.length 5 ≤ maxLen := grownCap_le_maxLen W _ _ _ (by unfold maxLen; omega)
    have hl : (zs ++ xs).length = zs.length + xs.length := List.length_append
    unfold OwnB
    rw [hl, List.map_append]
    have hlen2 : (zs.map (Value.int .u8) ++ xs.map (Value.int .u8)).length = (zs.length + xs.length) * 1 := by simp
    refine ⟨hlen2, .inr ⟨W.heap.size, _, _, rfl, hB, heap_alloc_new W.drew _, hge, hcm, ?_, ?_⟩⟩
    · have hz1 : (Value.int IntKind.u8 0).cells.size = 1 := rfl
      simp only [Array.size_append, List.size_toArray, size_zeroCells, hz1, List.length_map]
      omega
    · simp only [Array.toList_append, List.append_assoc]
      rw [← List.append_assoc, ← hlen2]
      exact List.take_left
theorem list_oneF {P : Program} {i : TypeInfo} {ops : Array Oper} {rest : List Oper} {o : Oper} {a : Act} {Q : Exit → Act → World → Prop} (hgd : o.guard = none) (s x : Operand) (t : TypeId) (ho : o.op = .call { callee := .builtin .append, args := #[s, x], argTypes := #[t, t] }) (ht : P.underlying t = some (.slice 5)) (hi : P.info? 5 = some i) (hz : i.zero = some (.int .u8 0))
    (hsize : i.size = 1) (hby : i.bytes = 1) (B : Nat) (W : World) (v : Value) (z : Int) (zs : List Int) (hs : a.eval s = v) (hx : a.eval x = .slice (some ⟨W.heap.size, 0, none⟩) 1 1) (hown : OwnF W B v zs) (hB : B ≤ W.heap.size) (hz' : 0 ≤ z ∧ z ≤ 255) (hlen : zs.length ≤ 1000000)
    (h : ∀ v' w', OwnF w' B v' (zs ++ [z]) → Below B W w' → wpList P ops Q rest (a.put o.dst v') w') : wpList P ops Q (o :: rest) a (W.alloc (.cells #[.int .u8 z] 5)) := by
  have b0 := bel_new W (.cells #[.int .u8 z] 5)
  refine wpList_plain hgd fun K hK => ?_
  obtain ⟨v', w', hr, ho', hg⟩ := run_rowF (P := P) t o.type ht hi hz hsize hby B _ v _ zs [z] (OwnF.below hown b0) (Nat.le_trans hB b0.size) (own_rowB (own_one 5 W W.heap.size z (Nat.le_refl _)) (by intro y hy; simp at hy; subst hy; exact hz')) (by simp) (by simp; omega)
  exact wp_app ho hs hx hr (hK _ _ (h v' w' (.inl ho') ((b0.mono hB).trans hg)))
set_option maxHeartbeats 400000 in
theorem putNumberF_any (v : Value) (zs : List Int) (x : Int) (size : Nat) (B : Nat) (w : World) (hown : OwnF w B v zs) (hB : B ≤ w.heap.size) (hs : size ≤ 4) (hlen : zs.length ≤ 900000) :
    Calls Tryz.prog 127 #[v, .int .i64 x, .int .i64 size] w fun e w' => ∃ v', e = .returned v' ∧ OwnF w' B v' (zs ++ nums x size size) ∧ Below B w w' := by
  obtain ⟨i0, hi, hz0, hz1, hz2⟩ := info_parts Sl.info5
  have hs0 : (size : Int) ≤ 4 := by omega
  have HS : Hid (size ≤ 4) := hs
  have HL : Hid (zs.length ≤ 900000) := hlen
  clear hs hlen
  go_enter Tryz.func127, Tryz.ntmps127
  go_wp2_with fail
  go_loopw [0, 7] (fun b i wr => ∃ (k : Nat) (q : Int), Hid ((k : Int) + q + 1 = size ∧ k ≤ size) ∧ -1 ≤ q ∧ q ≤ 3 ∧ i = .int .i64 q ∧ Hid (OwnF wr B b (zs ++ nums x size k) ∧ Below B w wr)) (fun _ i _ => (intOf i + 1).toNat)
  case atStart => exact ⟨0, (size : Int) - 1, ⟨by omega, by omega⟩, by omega, by omega, by go_num, ⟨by simpa [nums] using hown, Below.refl _ _⟩⟩
  case round =>
    clear hown hs0
    obtain ⟨k, q, HQ, hq0, hq1, rfl, HO⟩ := hrel
    by_cases hlt : 0 ≤ q
    · have hl : (zs ++ nums x size k).length ≤ 1000000 := by rw [List.length_append, nums_length]; have := HQ.out; have := HL.out; have := HS.out; omega
      go_wp2_with (at_builtin; go_must (refine list_oneF (by rfl) _ _ 107 (by rfl) Tryz.underlying107 hi hz0 hz1 hz2 B _ _ _ (zs ++ nums x size k) (by rfl) (by rfl) HO.out.1 (Nat.le_trans hB HO.out.2.size) (by omega) hl ?_; intro v' w' hown' hkp'))
      have e : x / 2 ^ (8 * q).toNat % 256 = nb x (size - 1 - k) := by
        unfold nb
        rw [show (8 * q).toNat = 8 * (size - 1 - k) by have := HQ.out; omega]
      rw [e, List.append_assoc, ← nums_succ] at hown'
      exact ⟨⟨k + 1, q - 1, ⟨by have := HQ.out; omega, by have := HQ.out; omega⟩, by omega, by omega, rfl, ⟨hown', HO.out.2.trans hkp'⟩⟩, by simp [intOf]; omega⟩
    · have hk : k = size := by have := HQ.out; omega
      have HK : Hid (k = size) := hk
      clear hk
      rw [HK.out] at HO
      go_wp2
      go_ret
      exact ⟨_, rfl, HO.out.1, HO.out.2⟩
end Go.Proofs.YtondmbeccpekiaaGreatDoor.Fu
