/- Texts put together: Uu, Tp, Tp2. -/
import Derived.Test.YtakfniknkejgpaaDoorMt8
import Derived.Test.YtakfniknkejgpaaDoorMt6
import Derived.Laws.Cover1
/- A table is taken off the wire: what impl.takeTable answers. -/
namespace Go.Proofs.YtakfniknkejgpaaDoor.Ur
open Go.RowKit Go.Proofs.YtakfniknkejgpaaDoor.Sl Go.Proofs.YtakfniknkejgpaaDoor.By Go.Proofs.YtakfniknkejgpaaDoor.Ap Go.Proofs.YtakfniknkejgpaaDoor.Rr Go.Proofs.YtakfniknkejgpaaDoor.Tb Go.Proofs.YtakfniknkejgpaaDoor.Tw
open Go.Proofs.YtakfniknkejgpaaDoor.Wa (OwnW OwnS clS oneS infoS)
open Go.Proofs.YtakfniknkejgpaaDoor.Lo (LkA uV clL oneL OwnL own_block kind_ne infoL)

theorem itR_succ (f : List Int → List Int) (k : Nat) (xs : List Int) : itR f (k + 1) xs = f (itR f k xs) := rfl
theorem itS_succ (f : List Int → List Int) (g : List Int → Bool → Bool) (k : Nat) (xs : List Int) (sh : Bool) : itS f g (k + 1) xs sh = g (itR f k xs) (itS f g k xs sh) := rfl
theorem itL_succ {α : Type} (f : List Int → List Int) (o : List Int → α) (k : Nat) (xs : List Int) : itL f o (k + 1) xs = itL f o k xs ++ [o (itR f k xs)] := rfl
theorem OwnW.apart {w : World} {B : Nat} {u : Value} {ws : List Wt} (h : OwnW w B u ws) {x : LkA} (hx : ∀ g, (uV x).ownBlock = some g → g < B) : ∀ g, (uV x).ownBlock = some g → u.ownBlock ≠ some g := fun g hg e => by
 have := hx g hg
 have := (h.lt g e).1
 omega
set_option maxRecDepth 100000 in
set_option maxHeartbeats 1600000 in
theorem takeTable_any (p B : Nat) (xs : List Int) (sh : Bool) (w : World) (h : Rdr B w p xs sh) (hB : B ≤ p) (hx : xs.length ≤ 70000) (hr : ∀ x ∈ xs, 0 ≤ x ∧ x ≤ 255) :
 Calls Tryd.prog 32 #[.pointer (some ⟨p, 0, none⟩)] w fun e w' => ∃ u2 u3 ms, e = .returned (tabV (tbO xs).tm (tbO xs).nx u2 u3) ∧ (ms.map (·.1) = (tbO xs).ls ∧ Mem w' w.heap.size u2 u3 ms (tbO xs).ss) ∧ Rdr B w' p (tbR xs) (tbS xs sh) ∧ w.grownBy w' (some p) := by
 obtain ⟨i0, hi0, hz0, hz1, hz2⟩ := info_parts infoL
 obtain ⟨j0, hj0, hy0, hy1, hy2⟩ := info_parts infoS
 have L0 : Hid (Lc w ((w.alloc (.cells #[.int .i64 0, .int .i64 0, .slice none 0 0, .slice none 0 0] 26)).alloc (.cells #[.int .i64 0, .int .i64 0, .slice none 0 0, .slice none 0 0] 26)) p B 26 #[.int .i64 0, .int .i64 0, .slice none 0 0, .slice none 0 0] #[.int .i64 0, .int .i64 0, .slice none 0 0, .slice none 0 0] xs sh) := Lc.start h hB _ _
 have HR0 : Hid (∀ x ∈ xs, 0 ≤ x ∧ x ≤ 255) := hr
 have HX0 : Hid (xs.length ≤ 70000) := hx
 clear h hr hx
 go_enter Tryd.func32, Tryd.ntmps32
 go_wp2_with fail
 generalize (w.alloc (.cells #[.int .i64 0, .int .i64 0, .slice none 0 0, .slice none 0 0] 26)).alloc (.cells #[.int .i64 0, .int .i64 0, .slice none 0 0, .slice none 0 0] 26) = w0 at L0 ⊢
 have N0 := number_any 4 p B xs sh _ L0.out.rd hB (by decide) HX0.out HR0.out
 have HR1 : Hid (∀ x ∈ (tkR 4 xs), 0 ≤ x ∧ x ≤ 255) := tkR_range HR0.out
 have HX1 : Hid (((tkR 4 xs)).length ≤ 70000) := Nat.le_trans (tkR_len _ _) HX0.out
 obtain ⟨z0, HZ0⟩ : ∃ z, Hid (beN (tkB 4 xs) = z) := ⟨_, rfl⟩
 rw [HZ0.out] at N0
 refine N0.mono ?_
 rintro e w1 ⟨rfl, r, g⟩
 have l := L0.out.num r g
 obtain ⟨c, f⟩ := blk_cell l.b 0 (x := .int .i64 0) rfl
 have L1 : Hid (Lc w (w1.setCell ⟨w.heap.size + 1, 0, none⟩ (.int .i64 z0)) p B 26 #[.int .i64 0, .int .i64 0, .slice none 0 0, .slice none 0 0] #[.int .i64 z0, .int .i64 0, .slice none 0 0, .slice none 0 0] (tkR 4 xs) (tkS 4 xs sh)) := l.set 0 _
 clear l r g L0 N0 HR0 HX0
 go_wp2_with fail
 clear c f
 generalize w1.setCell ⟨w.heap.size + 1, 0, none⟩ (.int .i64 z0) = w1' at L1 ⊢
 have N1 := number_any 3 p B (tkR 4 xs) (tkS 4 xs sh) _ L1.out.rd hB (by decide) HX1.out HR1.out
 have HR2 : Hid (∀ x ∈ (tkR 3 (tkR 4 xs)), 0 ≤ x ∧ x ≤ 255) := tkR_range HR1.out
 have HX2 : Hid (((tkR 3 (tkR 4 xs))).length ≤ 70000) := Nat.le_trans (tkR_len _ _) HX1.out
 obtain ⟨z1, HZ1⟩ : ∃ z, Hid (beN (tkB 3 (tkR 4 xs)) = z) := ⟨_, rfl⟩
 rw [HZ1.out] at N1
 refine N1.mono ?_
 rintro e w2 ⟨rfl, r, g⟩
 have l := L1.out.num r g
 obtain ⟨c, f⟩ := blk_cell l.b 1 (x := .int .i64 0) rfl
 have L2 : Hid (Lc w (w2.setCell ⟨w.heap.size + 1, 1, none⟩ (.int .i64 z1)) p B 26 #[.int .i64 0, .int .i64 0, .slice none 0 0, .slice none 0 0] #[.int .i64 z0, .int .i64 z1, .slice none 0 0, .slice none 0 0] (tkR 3 (tkR 4 xs)) (tkS 3 (tkR 4 xs) (tkS 4 xs sh))) := l.set 1 _
 clear l r g L1 N1 HR1 HX1
 go_wp2_with fail
 clear c f
 generalize w2.setCell ⟨w.heap.size + 1, 1, none⟩ (.int .i64 z1) = w2' at L2 ⊢
 have HEO : Hid (tbO xs = ⟨z0, z1, itL lkR lkO (cnt (tb2 xs)) (tbA xs), itL snR snO (cnt (tbB xs)) (tbC xs)⟩) := by
  show _ = _
  unfold tbO nv
  rw [HZ0.out, HZ1.out]
 have HEB : Hid (tbB xs = itR lkR (cnt (tb2 xs)) (tbA xs) ∧ tbS2 xs sh = tkS 1 (tbB xs) (itS lkR lkS (cnt (tb2 xs)) (tbA xs) (tbS1 xs sh))) := ⟨rfl, rfl⟩
 have HER : Hid (tbR xs = itR snR (cnt (tbB xs)) (tbC xs) ∧ tbS xs sh = itS snR snS (cnt (tbB xs)) (tbC xs) (tbS2 xs sh)) := ⟨rfl, rfl⟩
 have N2 := number_any 1 p B (tb2 xs) (tkS 3 (tkR 4 xs) (tkS 4 xs sh)) _ L2.out.rd hB (by decide) HX2.out HR2.out
 have nb := nv_range (n := 1) (xs := tb2 xs) HR2.out
 have hcn : beN (tkB 1 (tb2 xs)) = (cnt (tb2 xs) : Int) := by unfold cnt nv; unfold nv at nb; omega
 have hc2 : cnt (tb2 xs) ≤ 255 := by
  simp only [show ((256 : Int) ^ 1) = 256 from rfl] at nb
  unfold cnt; omega
 have HRA : Hid (∀ x ∈ tbA xs, 0 ≤ x ∧ x ≤ 255) := tkR_range HR2.out
 have HXA : Hid ((tbA xs).length ≤ 70000) := Nat.le_trans (tkR_len _ _) HX2.out
 rw [hcn] at N2
 obtain ⟨n, HNN⟩ : ∃ n, Hid (cnt (tb2 xs) = n) := ⟨_, rfl⟩
 obtain ⟨ys, HYS⟩ : ∃ ys, Hid (tbA xs = ys) := ⟨_, rfl⟩
 obtain ⟨s0, HS0⟩ : ∃ s0, Hid (tbS1 xs sh = s0) := ⟨_, rfl⟩
 rw [HNN.out] at N2 hc2 HEO HEB
 rw [HYS.out] at HEO HEB HRA HXA
 rw [HS0.out] at HEB
 clear nb hcn
 refine N2.mono ?_
 rintro e w3 ⟨rfl, r, g⟩
 have l3 : Lc w w3 p B 26 #[.int .i64 0, .int .i64 0, .slice none 0 0, .slice none 0 0] #[.int .i64 z0, .int .i64 z1, .slice none 0 0, .slice none 0 0] (tbA xs) (tbS1 xs sh) := L2.out.num r g
 rw [HYS.out, HS0.out] at l3
 have T3 : Hid (Tt w w3 p B z0 z1 (.slice none 0 0) (.slice none 0 0) [] [] ys s0) := ⟨l3, ⟨World.ownsRow_nil _ _ _ _, fun m hm => (by cases hm), List.Pairwise.nil, OwnS.nil _ _⟩⟩
 have HRY : Hid (∀ k, ∀ x ∈ itR lkR k ys, 0 ≤ x ∧ x ≤ 255) := fun k => (less_it less_lk k ys).2 HRA.out
 have HXY : Hid (∀ k, (itR lkR k ys).length ≤ 70000) := fun k => Nat.le_trans (less_it less_lk k ys).1 HXA.out
 clear r g L2 N2 HR2 HX2 l3 HRA HXA HYS HS0 HNN
 go_wp2_with fail
 go_loopw [12] (fun i wr => ∃ (k : Nat) (a : Option Addr) (c : Nat) (ms : List LkA), k ≤ n ∧ i = .int .i64 (k : Int) ∧ Hid (ms.map (·.1) = itL lkR lkO k ys ∧ Tt w wr p B z0 z1 (.slice a k c) (.slice none 0 0) ms [] (itR lkR k ys) (itS lkR lkS k ys s0))) (fun i _ => n - (intOf i).toNat)
 case atStart => exact ⟨0, none, 0, [], by omega, rfl, rfl, T3.out⟩
 case round =>
  clear T3
  obtain ⟨k, a, c, ms, hk, rfl, HT⟩ := hrel
  by_cases hlt : k < n
  ·have HLM : Hid (ms.length = k) := by
    have := congrArg List.length HT.out.1
    rw [List.length_map, itL_len] at this
    exact this
   have HLN : Hid (ms.length ≤ 1000000) := by show _ ≤ _; rw [HLM.out]; omega
   have HTL : Hid (∀ W, Tt w W p B z0 z1 (.slice a k c) (.slice none 0 0) ms [] (itR lkR k ys) (itS lkR lkS k ys s0) → Calls Tryd.prog 61 #[.pointer (some ⟨p, 0, none⟩)] W fun e w' => ∃ (ua : Option Addr) (uc : Nat), e = .returned (.agg #[.string (lkO (itR lkR k ys)).n, .int .i64 (lkO (itR lkR k ys)).t, .int .i64 (lkO (itR lkR k ys)).h, .int .i64 (lkO (itR lkR k ys)).e, .slice ua (lkO (itR lkR k ys)).ws.length uc]) ∧ Tn w w' p B z0 z1 (.slice a k c) (.slice none 0 0) ms (lkO (itR lkR k ys), ua, uc) [] (lkR (itR lkR k ys)) (lkS (itR lkR k ys) (itS lkR lkS k ys s0))) := fun W hW => by
    refine (takeLock_any p B (itR lkR k ys) (itS lkR lkS k ys s0) W hW.lc.rd hB (HXY.out k) (HRY.out k)).mono ?_
    rintro e w' ⟨u, rfl, ou, r, g⟩
    obtain ⟨ua, uc, rfl⟩ := ou.slice
    refine ⟨ua, uc, rfl, hW.num r g, ou.mono hW.lc.size, fun x hx q hq => ?_⟩
    exact OwnW.apart ou (x := x) (fun g hg => ((hW.me.ow x hx).lt g hg).2) q hq
   have HMP0 : ∀ (ua : Option Addr) (uc : Nat), (ms ++ [(lkO (itR lkR k ys), ua, uc)]).map (·.1) = itL lkR lkO (k + 1) ys := fun ua uc => by
    rw [List.map_append, HT.out.1, itL_succ]
    rfl
   obtain ⟨l, HL⟩ : ∃ l, Hid (lkO (itR lkR k ys) = l) := ⟨_, rfl⟩
   rw [HL.out] at HTL
   simp only [HL.out] at HMP0
   have HMP : Hid (∀ (ua : Option Addr) (uc : Nat), (ms ++ [(l, ua, uc)]).map (·.1) = itL lkR lkO (k + 1) ys) := HMP0
   have t0 := HT.out.2
   have q0 := t0.c2
   have q1 := t0.drew.c2
   clear HT HMP0 HL
   obtain ⟨r1, HR1⟩ : ∃ r1, Hid (lkR (itR lkR k ys) = r1) := ⟨_, rfl⟩
   obtain ⟨b1, HB1⟩ : ∃ b1, Hid (lkS (itR lkR k ys) (itS lkR lkS k ys s0) = b1) := ⟨_, rfl⟩
   rw [HR1.out, HB1.out] at HTL
   clear HRY HXY HEO HEB HER HZ0 HZ1 hj0 hy0 hy1 hy2 hB
   go_upto_region 6 with fail
   go_region_law
    (first
      | (go_simp; go_at_call 61; (with_reducible refine (HTL.out _ (by first | assumption | exact Tt.drew (by assumption))).mono ?_); rintro e wn ⟨ua, uc, rfl, tn⟩; have qn := tn.c2; have qa := fun o => Tn.c2 (tn.alloc o); have qd := Tn.c2 tn.drew; try go_simp)
      | (refine step_lk (by rfl) _ _ 23 (by rfl) Tryd.underlying23 hi0 hz0 hz1 hz2 _ w p B z0 z1 _ _ ms (l, ua, uc) [] _ _ (by rfl) _ (by rfl) (by first | exact heap_alloc_new _ _ | exact (heap_alloc_new _ _ : (World.alloc _ _).drew.heap[_]? = _)) (by first | assumption | exact Tn.drew (by assumption) | exact Tn.alloc (by assumption) _ | exact Tn.drew (Tn.alloc (by assumption) _) | exact Tn.alloc (Tn.drew (by assumption)) _) HLN.out ?_; intro v5 w5 t5; obtain ⟨a5, cap5, rfl⟩ := t5.me.ol.slice; obtain ⟨s5, f5⟩ := t5.c2; try go_simp))
   all_goals
    have hl5 : (ms ++ [(l, ua, uc)]).length = k + 1 := by rw [List.length_append, HLM.out]; rfl
    rw [hl5] at t5
    rw [HLM.out]
    have T5 : Hid ((ms ++ [(l, ua, uc)]).map (·.1) = itL lkR lkO (k + 1) ys ∧ Tt w (w5.setCell ⟨w.heap.size + 1, 2, none⟩ (.slice a5 (k + 1) cap5)) p B z0 z1 (.slice a5 (k + 1) cap5) (.slice none 0 0) (ms ++ [(l, ua, uc)]) [] r1 b1) := ⟨HMP.out ua uc, t5.set2⟩
    clear t5 t0 q0 q1 tn qn qd qa hl5
    go_wp2_with fail
    exact ⟨⟨k + 1, a5, cap5, ms ++ [(l, ua, uc)], by omega, by go_num, by rw [itR_succ, itS_succ, HR1.out, HB1.out]; exact T5⟩, by simp [intOf]; omega⟩
  ·obtain rfl : k = n := by omega
   have hlm : ms.length = k := by
    have := congrArg List.length HT.out.1
    rw [List.length_map, itL_len] at this
    exact this
   have HMS : Hid (ms.map (·.1) = itL lkR lkO k ys) := HT.out.1
   have TQ : Hid (Tt w wr p B z0 z1 (.slice a k c) (.slice none 0 0) ms [] (tbB xs) (itS lkR lkS k ys s0)) := by rw [HEB.out.1]; exact HT.out.2
   have HRB : Hid (∀ x ∈ tbB xs, 0 ≤ x ∧ x ≤ 255) := by rw [HEB.out.1]; exact HRY.out k
   have HXB : Hid ((tbB xs).length ≤ 70000) := by rw [HEB.out.1]; exact HXY.out k
   have nb := nv_range (n := 1) (xs := tbB xs) HRB.out
   have hcn : beN (tkB 1 (tbB xs)) = (cnt (tbB xs) : Int) := by unfold cnt nv; unfold nv at nb; omega
   have hc3 : cnt (tbB xs) ≤ 255 := by
    simp only [show ((256 : Int) ^ 1) = 256 from rfl] at nb
    unfold cnt; omega
   have HEC : Hid (tbC xs = tkR 1 (tbB xs) ∧ tbS2 xs sh = tkS 1 (tbB xs) (itS lkR lkS k ys s0)) := ⟨rfl, HEB.out.2⟩
   have N3 := number_any 1 p B (tbB xs) (itS lkR lkS k ys s0) _ TQ.out.lc.rd hB (by decide) HXB.out HRB.out
   have HRC : Hid (∀ x ∈ tbC xs, 0 ≤ x ∧ x ≤ 255) := by rw [HEC.out.1]; exact tkR_range HRB.out
   have HXC : Hid ((tbC xs).length ≤ 70000) := by rw [HEC.out.1]; exact Nat.le_trans (tkR_len _ _) HXB.out
   rw [hcn, ← HEC.out.1, ← HEC.out.2] at N3
   obtain ⟨n2, HN2⟩ : ∃ n, Hid (cnt (tbB xs) = n) := ⟨_, rfl⟩
   obtain ⟨zs, HZS⟩ : ∃ zs, Hid (tbC xs = zs) := ⟨_, rfl⟩
   obtain ⟨s1, HS1⟩ : ∃ s1, Hid (tbS2 xs sh = s1) := ⟨_, rfl⟩
   rw [HN2.out] at N3 hc3 HEO HER
   rw [HZS.out] at N3 HEO HER HRC HXC
   rw [HS1.out] at N3 HER
   have HRZ : Hid (∀ k, ∀ x ∈ itR snR k zs, 0 ≤ x ∧ x ≤ 255) := fun k => (less_it less_sn k zs).2 HRC.out
   have HXZ : Hid (∀ k, (itR snR k zs).length ≤ 70000) := fun k => Nat.le_trans (less_it less_sn k zs).1 HXC.out
   clear HT HRY HXY HRB HXB nb hcn HRC HXC HEB HEC
   go_wp2_with fail
   refine N3.mono ?_
   rintro e w5 ⟨rfl, r, g⟩
   have T5 : Hid (Tt w w5 p B z0 z1 (.slice a k c) (.slice none 0 0) ms [] zs s1) := TQ.out.num r g
   clear TQ r g N3
   obtain ⟨n, HKN⟩ : ∃ n, Hid (k = n) := ⟨_, rfl⟩
   rw [HKN.out] at T5 HMS HEO
   go_wp2_with fail
   go_loopw [24] (fun i wr => ∃ (k : Nat) (a2 : Option Addr) (c2 : Nat), k ≤ n2 ∧ i = .int .i64 (k : Int) ∧ Hid (Tt w wr p B z0 z1 (.slice a n c) (.slice a2 k c2) ms (itL snR snO k zs) (itR snR k zs) (itS snR snS k zs s1))) (fun i _ => n2 - (intOf i).toNat)
   case atStart => exact ⟨0, none, 0, by omega, rfl, T5⟩
   case round =>
    clear T5
    obtain ⟨k, a2, c2, hk2, rfl, HT⟩ := hrel
    by_cases hlt : k < n2
    ·have HLN : Hid ((itL snR snO k zs).length ≤ 1000000) := by show _ ≤ _; rw [itL_len]; omega
     have HTL : Hid (∀ W, Tt w W p B z0 z1 (.slice a n c) (.slice a2 k c2) ms (itL snR snO k zs) (itR snR k zs) (itS snR snS k zs s1) → Calls Tryd.prog 62 #[.pointer (some ⟨p, 0, none⟩)] W fun e w' => e = .returned (.agg #[.int .i64 (snO (itR snR k zs)).c, .int .i64 (snO (itR snR k zs)).s, .int .i64 (snO (itR snR k zs)).k, .int .i64 (snO (itR snR k zs)).t, .int .i64 (snO (itR snR k zs)).h, .int .i64 (snO (itR snR k zs)).e]) ∧ Tt w w' p B z0 z1 (.slice a n c) (.slice a2 k c2) ms (itL snR snO k zs) (snR (itR snR k zs)) (snS (itR snR k zs) (itS snR snS k zs s1))) := fun W hW => by
      refine (takeSeen_any p B (itR snR k zs) (itS snR snS k zs s1) W hW.lc.rd hB (HXZ.out k) (HRZ.out k)).mono ?_
      rintro e w' ⟨rfl, r, g⟩
      exact ⟨rfl, hW.num r g⟩
     have HES : Hid (itL snR snO (k + 1) zs = itL snR snO k zs ++ [snO (itR snR k zs)]) := itL_succ _ _ _ _
     have HLK : Hid ((itL snR snO k zs ++ [snO (itR snR k zs)]).length = k + 1) := by show _ = _; rw [List.length_append, itL_len]; rfl
     have HLM2 : Hid ((itL snR snO k zs).length = k) := itL_len _ _ _ _
     obtain ⟨m, HM⟩ : ∃ m, Hid (snO (itR snR k zs) = m) := ⟨_, rfl⟩
     obtain ⟨r1, HR1⟩ : ∃ r1, Hid (snR (itR snR k zs) = r1) := ⟨_, rfl⟩
     obtain ⟨b1, HB1⟩ : ∃ b1, Hid (snS (itR snR k zs) (itS snR snS k zs s1) = b1) := ⟨_, rfl⟩
     rw [HM.out] at HTL HES HLK
     rw [HR1.out, HB1.out] at HTL
     have t0 := HT.out
     obtain ⟨ss, HSS⟩ : ∃ ss, Hid (itL snR snO k zs = ss) := ⟨_, rfl⟩
     rw [HSS.out] at HTL HES HLK HLN HLM2 t0
     have q0 := t0.c3
     have q1 := t0.drew.c3
     clear HT HM
     clear HRZ HXZ HEO HER HZ0 HZ1 hi0 hz0 hz1 hz2 hB HMS hlm
     go_upto_region 10 with fail
     go_region_law
      (first
        | (go_simp; go_at_call 62; (with_reducible refine (HTL.out _ (by first | assumption | exact Tt.drew (by assumption))).mono ?_); rintro e wn ⟨rfl, tn⟩; have qn := tn.c3; have qa := fun o => Tt.c3 (tn.alloc o); have qd := Tt.c3 tn.drew; try go_simp)
        | (refine step_sn (by rfl) _ _ 24 (by rfl) Tryd.underlying24 hj0 hy0 hy1 hy2 _ w p B z0 z1 _ _ ms ss m r1 b1 (by rfl) _ (by rfl) (by first | exact heap_alloc_new _ _ | exact (heap_alloc_new _ _ : (World.alloc _ _).drew.heap[_]? = _)) (by first | assumption | exact Tt.drew (by assumption) | exact Tt.alloc (by assumption) _ | exact Tt.drew (Tt.alloc (by assumption) _) | exact Tt.alloc (Tt.drew (by assumption)) _) HLN.out ?_; intro v5 w5 t5; obtain ⟨a5, cap5, rfl⟩ := t5.me.os.slice; obtain ⟨s5, f5⟩ := t5.c3; try go_simp))
     all_goals
      rw [HLK.out] at t5
      rw [HLM2.out]
      have T5 : Hid (Tt w (w5.setCell ⟨w.heap.size + 1, 3, none⟩ (.slice a5 (k + 1) cap5)) p B z0 z1 (.slice a n c) (.slice a5 (k + 1) cap5) ms (ss ++ [m]) r1 b1) := t5.set3
      clear t5 t0 q0 q1 tn qn qd qa
      go_wp2_with fail
      exact ⟨⟨k + 1, a5, cap5, by omega, by go_num, by rw [itR_succ, itS_succ, HES.out, HR1.out, HB1.out]; exact T5⟩, by simp [intOf]; omega⟩
    ·obtain rfl : k = n2 := by omega
     have HQ := HT.out
     go_upto_region 12 with fail
     obtain ⟨ca0, fa0⟩ := blk_cell HQ.lc.a 0 (x := .int .i64 0) rfl
     have cb0 := (blk_cell HQ.lc.b 0 (x := .int .i64 z0) rfl).1
     obtain ⟨ca1, fa1⟩ := blk_cell HQ.lc.a 1 (x := .int .i64 0) rfl
     have cb1 := (blk_cell HQ.lc.b 1 (x := .int .i64 z1) rfl).1
     obtain ⟨ca2, fa2⟩ := blk_cell HQ.lc.a 2 (x := .slice none 0 0) rfl
     have cb2 := (blk_cell HQ.lc.b 2 (x := .slice a n c) rfl).1
     obtain ⟨ca3, fa3⟩ := blk_cell HQ.lc.a 3 (x := .slice none 0 0) rfl
     have cb3 := (blk_cell HQ.lc.b 3 (x := .slice a2 k c2) rfl).1
     have HFIN : Hid (Lc w ((((wr.setCell ⟨w.heap.size, 0, none⟩ (.int .i64 z0)).setCell ⟨w.heap.size, 1, none⟩ (.int .i64 z1)).setCell ⟨w.heap.size, 2, none⟩ (.slice a n c)).setCell ⟨w.heap.size, 3, none⟩ (.slice a2 k c2)) p B 26 #[.int .i64 z0, .int .i64 z1, .slice a n c, .slice a2 k c2] #[.int .i64 z0, .int .i64 z1, .slice a n c, .slice a2 k c2] (itR snR k zs) (itS snR snS k zs s1) ∧ Mem ((((wr.setCell ⟨w.heap.size, 0, none⟩ (.int .i64 z0)).setCell ⟨w.heap.size, 1, none⟩ (.int .i64 z1)).setCell ⟨w.heap.size, 2, none⟩ (.slice a n c)).setCell ⟨w.heap.size, 3, none⟩ (.slice a2 k c2)) (w.heap.size + 2) (.slice a n c) (.slice a2 k c2) ms (itL snR snO k zs)) :=
      ⟨HQ.lc.far0 0 _ |>.far0 1 _ |>.far0 2 _ |>.far0 3 _, HQ.me.kept fun g h2 _ => (blk_far (by omega) 3 _).trans ((blk_far (by omega) 2 _).trans ((blk_far (by omega) 1 _).trans (blk_far (by omega) 0 _)))⟩
     clear HQ HT
     go_wp2_with fail
     generalize ((((wr.setCell ⟨w.heap.size, 0, none⟩ (.int .i64 z0)).setCell ⟨w.heap.size, 1, none⟩ (.int .i64 z1)).setCell ⟨w.heap.size, 2, none⟩ (.slice a n c)).setCell ⟨w.heap.size, 3, none⟩ (.slice a2 k c2)) = wf at HFIN ⊢
     have d0 := (blk_cell HFIN.out.1.a 0 (x := .int .i64 z0) rfl).1
     have d1 := (blk_cell HFIN.out.1.a 1 (x := .int .i64 z1) rfl).1
     have d2 := (blk_cell HFIN.out.1.a 2 (x := .slice a n c) rfl).1
     have d3 := (blk_cell HFIN.out.1.a 3 (x := .slice a2 k c2) rfl).1
     refine bodyPost_ret (v := .agg #[.int .i64 z0, .int .i64 z1, .slice a n c, .slice a2 k c2]) (by simp [results, Tryd.results32, go_sem, d0, d1, d2, d3]) rfl ⟨.slice a n c, .slice a2 k c2, ms, ?_, ⟨?_, ?_⟩, ?_, HFIN.out.1.gr⟩
     ·rw [HEO.out]; rfl
     ·rw [HEO.out]; exact HMS.out
     ·rw [HEO.out]
      have hm := HFIN.out.2
      exact ⟨hm.ol.mono (by omega), fun m h => (hm.ow m h).mono (by omega), hm.di, hm.os.mono (by omega)⟩
     ·rw [HER.out.1, HER.out.2]; exact HFIN.out.1.rd
end Go.Proofs.YtakfniknkejgpaaDoor.Ur

/- Tables that are right: the program's parts. -/
namespace Go.Proofs.YtakfniknkejgpaaDoor.Tp
open Go.RowKit Go.Proofs.YtakfniknkejgpaaDoor.Sl Go.Proofs.YtakfniknkejgpaaDoor.Ap Go.Proofs.YtakfniknkejgpaaDoor.Tx Go.Proofs.YtakfniknkejgpaaDoor.Tb Go.Proofs.YtakfniknkejgpaaDoor.Tw Go.Proofs.YtakfniknkejgpaaDoor.Rq

noncomputable def bOf (p : Prop) : Bool := @decide p (Classical.propDecidable p)
theorem bOf_true {p : Prop} (h : p) : bOf p = true := by unfold bOf; simp [h]
theorem bOf_false {p : Prop} (h : ¬ p) : bOf p = false := by unfold bOf; simp [h]
def FstOf (ws : List Wt) (c : Int) (r : Int) : Prop := (r = -1 ∧ ∀ (j : Nat) (y : Wt), ws[j]? = some y → y.c ≠ c) ∨ ∃ (k : Nat) (x : Wt), r = k ∧ ws[k]? = some x ∧ x.c = c ∧ ∀ (j : Nat) (y : Wt), j < k → ws[j]? = some y → y.c ≠ c
def WOne (h : Int) (ws : List Wt) (k : Nat) (x : Wt) : Prop := inB x.c 0 255 = true ∧ inB x.l 1 1000 = true ∧ x.c ≠ h ∧ ∀ (j : Nat) (y : Wt), j < k → ws[j]? = some y → y.c ≠ x.c
def WsOK (h : Int) (ws : List Wt) : Prop := ∀ k x, ws[k]? = some x → WOne h ws k x
def HdOK (l : Lk) : Prop := (l.h = -1 ∧ l.e = 0 ∧ l.ws.length = 0) ∨ (l.h ≠ -1 ∧ inB l.h 0 255 = true ∧ inB l.e 0 2000000000 = true ∧ l.ws.length ≤ 4 ∧ WsOK l.h l.ws)
def pn (ls : List Lk) (i : Nat) : ByteArray := if i = 0 then ⟨#[]⟩ else (ls.getD (i - 1) default).n
def LOne (nx : Int) (p : ByteArray) (l : Lk) : Prop := (Op.bytesLess l.n.toList p.toList || l.n.toList == p.toList) = false ∧ opB l.n = true ∧ inB l.t 0 (nx - 1) = true ∧ HdOK l
def LsOK (nx : Int) (ls : List Lk) : Prop := ∀ i l, ls[i]? = some l → LOne nx (pn ls i) l
def AnsOK (k t h e : Int) : Prop := inB k 1 8 = true ∧ inB t 0 1000000 = true ∧ inB h (-1) 255 = true ∧ inB e 0 2000000000 = true
def pc (ss : List Sn) (i : Nat) : Int := if i = 0 then 0 else (ss.getD (i - 1) default).c + 1
def SOne (p : Int) (s : Sn) : Prop := inB s.c p 255 = true ∧ inB s.s 1 65535 = true ∧ AnsOK s.k s.t s.h s.e
def SsOK (ss : List Sn) : Prop := ∀ i s, ss[i]? = some s → SOne (pc ss i) s
def TOK (t : Tab) : Prop := inB t.tm 0 1000000000 = true ∧ inB t.nx 1 1000000 = true ∧ t.ls.length ≤ 4 ∧ LsOK t.nx t.ls ∧ t.ss.length ≤ 6 ∧ SsOK t.ss
theorem pn_succ {ls : List Lk} {k : Nat} {x : Lk} (h : ls[k]? = some x) : pn ls (k + 1) = x.n := by
 unfold pn
 rw [if_neg (by omega), Nat.add_sub_cancel, List.getD_eq_getElem?_getD, h]
 rfl
theorem pc_succ {ss : List Sn} {k : Nat} {x : Sn} (h : ss[k]? = some x) : pc ss (k + 1) = x.c + 1 := by
 unfold pc
 rw [if_neg (by omega), Nat.add_sub_cancel, List.getD_eq_getElem?_getD, h]
 rfl
theorem inB_le {x a b : Int} (h : inB x a b = true) : a ≤ x ∧ x ≤ b := by unfold inB at h; simpa using h
theorem upto {α : Type} {xs : List α} {k : Nat} {P : Nat → α → Prop} (h : ∀ j y, j < k → xs[j]? = some y → P j y) {x : α} (hx : xs[k]? = some x) (hp : P k x) : ∀ j y, j < k + 1 → xs[j]? = some y → P j y := fun j y hj hy => by
 by_cases e : j = k
 ·subst e
  rw [hx] at hy
  cases hy
  exact hp
 ·exact h j y (by omega) hy

set_option maxRecDepth 100000 in
set_option maxHeartbeats 800000 in
theorem waits1_any (x : Wt) (p : Nat) (c : Int) (w : World) (h : w.cell? ⟨p, 0, none⟩ = some (.int .i64 c)) :
 Calls Tryd.prog 127 #[wtV x, .pointer (some ⟨p, 0, none⟩)] w fun e w' => e = .returned (.bool (x.c == c)) ∧ Below w.heap.size w w' := by
 unfold wtV
 have hp := World.block_lt_of_cell? w _ h
 have h2 : ∀ o, (w.alloc o).cell? ⟨p, 0, none⟩ = some (.int .i64 c) := fun o => (World.cell?_alloc_lt _ _ _ hp).trans h
 go_enter Tryd.func127, Tryd.ntmps127
 go_wp2_with fail
 go_ret
 exact ⟨rfl, bel_new _ _⟩
set_option maxRecDepth 100000 in
set_option maxHeartbeats 800000 in
theorem indexFunc_any (v : Value) (xs : List Wt) (c : Int) (p : Nat) (w : World) (h : RowW w v xs) (hl : xs.length ≤ 1048576) (hc : w.cell? ⟨p, 0, none⟩ = some (.int .i64 c)) :
 Calls Tryd.prog 126 #[v, .func (.func 127) #[] #[.pointer (some ⟨p, 0, none⟩)]] w fun e w' => (∃ r, e = .returned (.int .i64 r) ∧ FstOf xs c r) ∧ Below w.heap.size w w' := by
 have HR : Hid (RowW w v xs ∧ w.cell? ⟨p, 0, none⟩ = some (.int .i64 c)) := ⟨h, hc⟩
 obtain ⟨a, cap, rfl⟩ := RowG.slice h
 clear h hc
 go_enter Tryd.func126, Tryd.ntmps126
 go_wp2_with fail
 go_loopw [8] (fun i wr => ∃ k : Nat, k ≤ xs.length ∧ i = .int .i64 k ∧ Hid ((∀ (j : Nat) (y : Wt), j < k → xs[j]? = some y → y.c ≠ c) ∧ Below w.heap.size w wr)) (fun i _ => xs.length - (intOf i).toNat)
 case atStart => exact ⟨0, by omega, rfl, ⟨fun j y hj => by omega, Below.refl _ _⟩⟩
 case round =>
  obtain ⟨k, hk, rfl, HK⟩ := hrel
  by_cases hlt : k < xs.length
  ·obtain ⟨x, hx⟩ := Tw.get_at hlt
   obtain ⟨b, off, rfl, hbl, c0, c1⟩ := RowG.at (HR.out.1.below HK.out.2) rfl hx
   have HX : Hid (xs[k]? = some x ∧ wr.cell? ⟨p, 0, none⟩ = some (.int .i64 c)) := ⟨hx, (HK.out.2.cell (World.block_lt_of_cell? w _ HR.out.2)).trans HR.out.2⟩
   clear hx
   go_wp2_with fail
   refine (waits1_any x p c wr HX.out.2).mono ?_
   rintro e w2 ⟨rfl, b2⟩
   have HB2 : Hid (Below w.heap.size w w2) := HK.out.2.trans (b2.mono HK.out.2.size)
   clear b2
   by_cases he : x.c = c
   ·have he' : (x.c == c) = true := by simpa using he
    rw [he']
    have HE : Hid (x.c = c) := he
    clear he he'
    go_wp2_with fail
    go_ret
    exact ⟨⟨_, rfl, Or.inr ⟨k, x, rfl, HX.out.1, HE.out, HK.out.1⟩⟩, HB2.out⟩
   ·have he' : (x.c == c) = false := by simpa using he
    rw [he']
    have HE : Hid (x.c ≠ c) := he
    clear he he'
    go_wp2_with fail
    exact ⟨⟨k + 1, by omega, by go_num, ⟨upto (P := fun _ y => y.c ≠ c) HK.out.1 HX.out.1 HE.out, HB2.out⟩⟩, by simp [intOf]; omega⟩
  ·obtain rfl : k = xs.length := by omega
   go_wp2_with fail
   go_ret
   exact ⟨⟨_, rfl, Or.inl ⟨rfl, fun j y hy => HK.out.1 j y (lt_at hy) hy⟩⟩, HK.out.2⟩
set_option maxRecDepth 100000 in
set_option maxHeartbeats 800000 in
theorem waitsAt_any (v : Value) (xs : List Wt) (c : Int) (w : World) (h : RowW w v xs) (hl : xs.length ≤ 1048576) :
 Calls Tryd.prog 121 #[v, .int .i64 c] w fun e w' => (∃ r, e = .returned (.int .i64 r) ∧ FstOf xs c r) ∧ Below w.heap.size w w' := by
 have HR : Hid (RowW w v xs) := h
 obtain ⟨a, cap, rfl⟩ := RowG.slice h
 clear h
 have HB : Hid (Below w.heap.size w (w.alloc (.cells #[.int .i64 c] 3))) := bel_new _ _
 have HC : Hid ((w.alloc (.cells #[.int .i64 c] 3)).cell? ⟨w.heap.size, 0, none⟩ = some (.int .i64 c)) := (blk_cell (blk_new w _ _) 0 rfl).1
 go_enter Tryd.func121, Tryd.ntmps121
 go_wp2_with fail
 refine (indexFunc_any _ xs c w.heap.size _ (HR.out.below HB.out) hl HC.out).mono ?_
 rintro e w2 ⟨⟨r, rfl, hr⟩, b2⟩
 have HF : Hid (FstOf xs c r ∧ Below w.heap.size w w2) := ⟨hr, HB.out.trans (b2.mono HB.out.size)⟩
 clear hr b2
 go_wp2_with fail
 go_ret
 exact ⟨⟨_, rfl, HF.out.1⟩, HF.out.2⟩
theorem fst_own {ws : List Wt} {k : Nat} {x : Wt} {r : Int} (hx : ws[k]? = some x) (h : FstOf ws x.c r) : (r < (k : Int)) ↔ ¬ ∀ (j : Nat) (y : Wt), j < k → ws[j]? = some y → y.c ≠ x.c := by
 rcases h with ⟨_, h⟩ | ⟨i, z, rfl, hz, hc, h⟩
 ·exact absurd rfl (h k x hx)
 ·constructor
  ·intro hlt hh
   exact hh i z (by omega) hz hc
  ·intro hn
   rcases Nat.lt_or_ge i k with hi | hi
   ·omega
   ·exact absurd (fun j y hj hy => h j y (by omega) hy) hn
set_option maxRecDepth 100000 in
set_option maxHeartbeats 1600000 in
theorem waitersOK_any (l : Lk) (u : Value) (w : World) (h : RowW w u l.ws) (hl : l.ws.length ≤ 1048576) :
 Calls Tryd.prog 103 #[lkV l u] w fun e w' => e = .returned (.bool (bOf (WsOK l.h l.ws))) ∧ Below w.heap.size w w' := by
 obtain ⟨ln, lt, hh, le, ws⟩ := l
 unfold lkV
 dsimp only at h hl ⊢
 obtain ⟨a, cap, rfl⟩ := RowG.slice h
 have HX : Hid (∀ W, Below (w.alloc (.cells #[.string ln, .int .i64 lt, .int .i64 hh, .int .i64 le, .slice a ws.length cap] 52)).heap.size (w.alloc (.cells #[.string ln, .int .i64 lt, .int .i64 hh, .int .i64 le, .slice a ws.length cap] 52)) W → W.cell? ⟨w.heap.size, 2, none⟩ = some (.int .i64 hh) ∧ W.cell? ⟨w.heap.size, 4, none⟩ = some (.slice a ws.length cap) ∧ RowW W (.slice a ws.length cap) ws ∧ Below w.heap.size w W) := fun W hW => by
  have h1 := (hW.block w.heap.size (by simp)).trans (heap_alloc_new w _)
  exact ⟨(blk_cell h1 2 rfl).1, (blk_cell h1 4 rfl).1, (h.below (bel_new _ _)).below hW, (bel_new w _).trans (hW.mono (by simp))⟩
 clear h
 go_enter Tryd.func103, Tryd.ntmps103
 go_upto_region 1 with fail
 generalize w.alloc (.cells #[.string ln, .int .i64 lt, .int .i64 hh, .int .i64 le, .slice a ws.length cap] 52) = wb at HX ⊢
 obtain ⟨x2, x4, _, _⟩ := HX.out wb (Below.refl _ _)
 go_wp2_with fail
 clear x2 x4
 go_loopw [8] (fun i wr => ∃ k : Nat, k ≤ ws.length ∧ i = .int .i64 k ∧ Hid ((∀ j y, j < k → ws[j]? = some y → WOne hh ws j y) ∧ Below wb.heap.size wb wr)) (fun i _ => ws.length - (intOf i).toNat)
 case atStart => exact ⟨0, by omega, rfl, ⟨fun j y hj => by omega, Below.refl _ _⟩⟩
 case round =>
  obtain ⟨k, hk, rfl, HK⟩ := hrel
  obtain ⟨x2, x4, hr0, hb0⟩ := HX.out wr HK.out.2
  have HB0 : Hid (Below w.heap.size w wr) := hb0
  by_cases hlt : k < ws.length
  ·obtain ⟨x, hx⟩ := Tw.get_at hlt
   obtain ⟨b, off, rfl, hbl, c0, c1⟩ := RowG.at hr0 rfl hx
   have HN : Hid (WOne hh ws k x ↔ (inB x.c 0 255 = true ∧ inB x.l 1 1000 = true ∧ x.c ≠ hh ∧ ∀ (j : Nat) (y : Wt), j < k → ws[j]? = some y → y.c ≠ x.c)) := Iff.rfl
   have HNO : Hid (¬ WOne hh ws k x → bOf (WsOK hh ws) = false) := fun h => bOf_false fun hh => h (hh k x hx)
   have HYS : Hid (WOne hh ws k x → ∀ j y, j < k + 1 → ws[j]? = some y → WOne hh ws j y) := fun h => upto (P := fun j y => WOne hh ws j y) HK.out.1 hx h
   have HW : Hid (∀ o, Below wb.heap.size wb (wr.alloc o) ∧ Below w.heap.size w (wr.alloc o)) := fun o => ⟨HK.out.2.trans ((bel_new wr o).mono HK.out.2.size), HB0.out.trans ((bel_new wr o).mono HB0.out.size)⟩
   have y2 : ∀ o, (wr.alloc o).cell? ⟨w.heap.size, 2, none⟩ = some (.int .i64 hh) := fun o => (HX.out _ (HW.out o).1).1
   have y4 : ∀ o, (wr.alloc o).cell? ⟨w.heap.size, 4, none⟩ = some (.slice (some ⟨b, off, none⟩) ws.length cap) := fun o => (HX.out _ (HW.out o).1).2.1
   have HWA : Hid (∀ o, Calls Tryd.prog 121 #[.slice (some ⟨b, off, none⟩) ws.length cap, .int .i64 x.c] (wr.alloc o) fun e w' => (∃ r : Int, e = .returned (.int .i64 r) ∧ decide (r < (k : Int)) = bOf (¬ ∀ (j : Nat) (y : Wt), j < k → ws[j]? = some y → y.c ≠ x.c)) ∧ Below wb.heap.size wb w' ∧ Below w.heap.size w w') := fun o =>
    (waitsAt_any _ ws x.c _ (HX.out _ (HW.out o).1).2.2.1 hl).mono fun e w' ⟨⟨r, he, hf⟩, b2⟩ => ⟨⟨r, he, by
      have := fst_own hx hf
      by_cases hq : ∀ (j : Nat) (y : Wt), j < k → ws[j]? = some y → y.c ≠ x.c
      ·rw [bOf_false (fun h => h hq), decide_eq_false (fun h => this.1 h hq)]
      ·rw [bOf_true hq, decide_eq_true (this.2 hq)]⟩, (HW.out o).1.trans (b2.mono (HW.out o).1.size), (HW.out o).2.trans (b2.mono (HW.out o).2.size)⟩
   clear hx hr0 hb0 x2 x4
   cases h1 : inB x.c 0 255 with
   | false =>
     have HF : Hid (bOf (WsOK hh ws) = false) := HNO.out fun h => by have := (HN.out.1 h).1; rw [h1] at this; cases this
     go_wp2_with (go_at_call 43; refine (within_any _ _ _ _).mono ?_; rintro e w1 ⟨rfl, rfl⟩; rw [h1])
     go_ret
     exact ⟨ret_bool HF.out.symm, (HW.out _).2⟩
   | true =>
     cases h2 : inB x.l 1 1000 with
     | false =>
       have HF : Hid (bOf (WsOK hh ws) = false) := HNO.out fun h => by have := (HN.out.1 h).2.1; rw [h2] at this; cases this
       go_wp2_with (go_at_call 43; refine (within_any _ _ _ _).mono ?_; rintro e w1 ⟨rfl, rfl⟩; first | rw [h1] | rw [h2])
       go_ret
       exact ⟨ret_bool HF.out.symm, (HW.out _).2⟩
     | true =>
       by_cases h3 : x.c = hh
       ·have HF : Hid (bOf (WsOK hh ws) = false) := HNO.out fun h => (HN.out.1 h).2.2.1 h3
        have h3' : (x.c == hh) = true := by simpa using h3
        clear h3
        go_wp2_with (go_at_call 43; refine (within_any _ _ _ _).mono ?_; rintro e w1 ⟨rfl, rfl⟩; first | rw [h1] | rw [h2])
        go_ret
        exact ⟨ret_bool HF.out.symm, (HW.out _).2⟩
       ·have h3' : (x.c == hh) = false := by simpa using h3
        cases h4 : bOf (¬ ∀ (j : Nat) (y : Wt), j < k → ws[j]? = some y → y.c ≠ x.c) with
        | true =>
          have HF : Hid (bOf (WsOK hh ws) = false) := HNO.out fun h => by rw [bOf_false (fun hn => hn (HN.out.1 h).2.2.2)] at h4; cases h4
          rw [h4] at HWA
          clear h3 h4
          go_wp2_with (first | (go_at_call 43; refine (within_any _ _ _ _).mono ?_; rintro e w1 ⟨rfl, rfl⟩; first | rw [h1] | rw [h2]) | (go_at_call 121; refine (HWA.out _).mono ?_; rintro e w2 ⟨⟨r, rfl, hd⟩, g1, g2⟩))
          go_ret
          exact ⟨ret_bool HF.out.symm, g2⟩
        | false =>
          have HT : Hid (WOne hh ws k x) := HN.out.2 ⟨h1, h2, h3, Classical.byContradiction fun hn => by rw [bOf_true hn] at h4; cases h4⟩
          rw [h4] at HWA
          clear h3 h4
          go_wp2_with (first | (go_at_call 43; refine (within_any _ _ _ _).mono ?_; rintro e w1 ⟨rfl, rfl⟩; first | rw [h1] | rw [h2]) | (go_at_call 121; refine (HWA.out _).mono ?_; rintro e w2 ⟨⟨r, rfl, hd⟩, g1, g2⟩))
          exact ⟨⟨k + 1, by omega, by go_num, ⟨HYS.out HT.out, g1⟩⟩, by simp [intOf]; omega⟩
  ·obtain rfl : k = ws.length := by omega
   have HT : Hid (bOf (WsOK hh ws) = true) := bOf_true fun j y hy => HK.out.1 j y (lt_at hy) hy
   clear hr0 hb0
   go_wp2_with fail
   go_ret
   exact ⟨ret_bool HT.out.symm, HB0.out⟩
end Go.Proofs.YtakfniknkejgpaaDoor.Tp

/- Tables that are right: the program's locks, what was seen, the whole. -/
namespace Go.Proofs.YtakfniknkejgpaaDoor.Tp
open Go.RowKit Go.Proofs.YtakfniknkejgpaaDoor.Sl Go.Proofs.YtakfniknkejgpaaDoor.Ap Go.Proofs.YtakfniknkejgpaaDoor.Tx Go.Proofs.YtakfniknkejgpaaDoor.Tb Go.Proofs.YtakfniknkejgpaaDoor.Tw Go.Proofs.YtakfniknkejgpaaDoor.Rq

set_option maxRecDepth 100000 in
set_option maxHeartbeats 1600000 in
theorem holdOK_any (l : Lk) (u : Value) (w : World) (h : RowW w u l.ws) (hl : l.ws.length ≤ 1048576) :
 Calls Tryd.prog 84 #[lkV l u] w fun e w' => e = .returned (.bool (bOf (HdOK l))) ∧ Below w.heap.size w w' := by
 obtain ⟨a, cap, rfl⟩ := RowG.slice h
 have HD : Hid (HdOK l ↔ ((l.h = -1 ∧ l.e = 0 ∧ l.ws.length = 0) ∨ (l.h ≠ -1 ∧ inB l.h 0 255 = true ∧ inB l.e 0 2000000000 = true ∧ l.ws.length ≤ 4 ∧ WsOK l.h l.ws))) := Iff.rfl
 have HWO : Hid (∀ o, Calls Tryd.prog 103 #[.agg #[.string l.n, .int .i64 l.t, .int .i64 l.h, .int .i64 l.e, .slice a l.ws.length cap]] (w.alloc o) fun e w' => e = .returned (.bool (bOf (WsOK l.h l.ws))) ∧ Below w.heap.size w w') := fun o =>
  (waitersOK_any l _ _ (h.below (bel_new w o)) hl).mono fun e w' ⟨he, hb⟩ => ⟨he, (bel_new w o).trans (hb.mono (bel_new w o).size)⟩
 clear h
 unfold lkV
 by_cases h0 : l.h = -1
 ·have h0' : (l.h == -1) = true := by simpa using h0
  by_cases he : l.e = 0
  ·have he' : (l.e == 0) = true := by simpa using he
   by_cases hn : l.ws.length = 0
   ·have hn' : ((l.ws.length : Int) == 0) = true := by simpa using hn
    have HF : Hid (bOf (HdOK l) = true) := bOf_true (HD.out.2 (.inl ⟨h0, he, hn⟩))
    clear h0 he hn hl
    go_enter Tryd.func84, Tryd.ntmps84
    go_wp2_with fail
    go_ret
    exact ⟨ret_bool HF.out.symm, bel_new _ _⟩
   ·have hn' : ((l.ws.length : Int) == 0) = false := by simpa using hn
    have HF : Hid (bOf (HdOK l) = false) := bOf_false fun h => by rcases HD.out.1 h with h | h; exact hn h.2.2; exact h.1 h0
    clear h0 he hn hl
    go_enter Tryd.func84, Tryd.ntmps84
    go_wp2_with fail
    go_ret
    exact ⟨ret_bool HF.out.symm, bel_new _ _⟩
  ·have he' : (l.e == 0) = false := by simpa using he
   have HF : Hid (bOf (HdOK l) = false) := bOf_false fun h => by rcases HD.out.1 h with h | h; exact he h.2.1; exact h.1 h0
   clear h0 he hl
   go_enter Tryd.func84, Tryd.ntmps84
   go_wp2_with fail
   go_ret
   exact ⟨ret_bool HF.out.symm, bel_new _ _⟩
 ·have h0' : (l.h == -1) = false := by simpa using h0
  have HD2 : Hid (HdOK l ↔ (inB l.h 0 255 = true ∧ inB l.e 0 2000000000 = true ∧ l.ws.length ≤ 4 ∧ WsOK l.h l.ws)) := ⟨fun h => by rcases HD.out.1 h with h | h; exact absurd h.1 h0; exact h.2, fun h => HD.out.2 (.inr ⟨h0, h⟩)⟩
  clear HD h0
  cases h1 : inB l.h 0 255 with
  | false =>
    have HF : Hid (bOf (HdOK l) = false) := bOf_false fun h => by have := (HD2.out.1 h).1; rw [h1] at this; cases this
    clear hl
    go_enter Tryd.func84, Tryd.ntmps84
    go_wp2_with (go_at_call 43; refine (within_any _ _ _ _).mono ?_; rintro e w1 ⟨rfl, rfl⟩; rw [h1])
    go_ret
    exact ⟨ret_bool HF.out.symm, bel_new _ _⟩
  | true =>
    cases h2 : inB l.e 0 2000000000 with
    | false =>
      have HF : Hid (bOf (HdOK l) = false) := bOf_false fun h => by have := (HD2.out.1 h).2.1; rw [h2] at this; cases this
      clear hl
      go_enter Tryd.func84, Tryd.ntmps84
      go_wp2_with (go_at_call 43; refine (within_any _ _ _ _).mono ?_; rintro e w1 ⟨rfl, rfl⟩; first | rw [h1] | rw [h2])
      go_ret
      exact ⟨ret_bool HF.out.symm, bel_new _ _⟩
    | true =>
      by_cases h3 : l.ws.length ≤ 4
      ·have h3' : (l.ws.length : Int) ≤ 4 := by omega
       have HF : Hid (bOf (HdOK l) = bOf (WsOK l.h l.ws)) := by
        show _ = _
        by_cases hw : WsOK l.h l.ws
        ·rw [bOf_true hw, bOf_true (HD2.out.2 ⟨h1, h2, h3, hw⟩)]
        ·rw [bOf_false hw, bOf_false fun h => hw (HD2.out.1 h).2.2.2]
       clear hl
       generalize bOf (WsOK l.h l.ws) = bb at HWO HF
       go_enter Tryd.func84, Tryd.ntmps84
       go_wp2_with (first | (go_at_call 43; refine (within_any _ _ _ _).mono ?_; rintro e w1 ⟨rfl, rfl⟩; first | rw [h1] | rw [h2]) | (go_at_call 103; refine (HWO.out _).mono ?_; rintro e w2 ⟨rfl, g2⟩))
       go_ret
       exact ⟨ret_bool HF.out.symm, g2⟩
      ·have h3' : ¬ (l.ws.length : Int) ≤ 4 := by omega
       have h3'' : decide ((l.ws.length : Int) ≤ 4) = false := decide_eq_false h3'
       have HF : Hid (bOf (HdOK l) = false) := bOf_false fun h => h3 (HD2.out.1 h).2.2.1
       clear hl h3
       go_enter Tryd.func84, Tryd.ntmps84
       go_wp2_with (go_at_call 43; refine (within_any _ _ _ _).mono ?_; rintro e w1 ⟨rfl, rfl⟩; first | rw [h1] | rw [h2])
       go_ret
       exact ⟨ret_bool HF.out.symm, bel_new _ _⟩
set_option maxRecDepth 100000 in
set_option maxHeartbeats 1600000 in
theorem answerOK_any (k t h e0 : Int) (w : World) :
 Calls Tryd.prog 104 #[.agg #[.int .i64 k, .int .i64 t, .int .i64 h, .int .i64 e0]] w fun e w' => e = .returned (.bool (bOf (AnsOK k t h e0))) ∧ Below w.heap.size w w' := by
 cases h1 : inB k 1 8 with
 | false =>
   have HF : Hid (bOf (AnsOK k t h e0) = false) := bOf_false fun h => by have := (h.1); rw [h1] at this; cases this
   go_enter Tryd.func104, Tryd.ntmps104
   go_wp2_with (go_at_call 43; refine (within_any _ _ _ _).mono ?_; rintro e w1 ⟨rfl, rfl⟩; rw [h1])
   go_ret
   exact ⟨ret_bool HF.out.symm, bel_new _ _⟩
 | true =>
   cases h2 : inB t 0 1000000 with
   | false =>
     have HF : Hid (bOf (AnsOK k t h e0) = false) := bOf_false fun h => by have := (h.2.1); rw [h2] at this; cases this
     go_enter Tryd.func104, Tryd.ntmps104
     go_wp2_with (go_at_call 43; refine (within_any _ _ _ _).mono ?_; rintro e w1 ⟨rfl, rfl⟩; first | rw [h1] | rw [h2])
     go_ret
     exact ⟨ret_bool HF.out.symm, bel_new _ _⟩
   | true =>
     cases h3 : inB h (-1) 255 with
     | false =>
       have HF : Hid (bOf (AnsOK k t h e0) = false) := bOf_false fun h => by have := (h.2.2.1); rw [h3] at this; cases this
       go_enter Tryd.func104, Tryd.ntmps104
       go_wp2_with (go_at_call 43; refine (within_any _ _ _ _).mono ?_; rintro e w1 ⟨rfl, rfl⟩; first | rw [h1] | rw [h2] | rw [h3])
       go_ret
       exact ⟨ret_bool HF.out.symm, bel_new _ _⟩
     | true =>
       cases h4 : inB e0 0 2000000000 with
       | false =>
         have HF : Hid (bOf (AnsOK k t h e0) = false) := bOf_false fun h => by have := (h.2.2.2); rw [h4] at this; cases this
         go_enter Tryd.func104, Tryd.ntmps104
         go_wp2_with (go_at_call 43; refine (within_any _ _ _ _).mono ?_; rintro e w1 ⟨rfl, rfl⟩; first | rw [h1] | rw [h2] | rw [h3] | rw [h4])
         go_ret
         exact ⟨ret_bool HF.out.symm, bel_new _ _⟩
       | true =>
         have HF : Hid (bOf (AnsOK k t h e0) = true) := bOf_true ⟨h1, h2, h3, h4⟩
         go_enter Tryd.func104, Tryd.ntmps104
         go_wp2_with (go_at_call 43; refine (within_any _ _ _ _).mono ?_; rintro e w1 ⟨rfl, rfl⟩; first | rw [h1] | rw [h2] | rw [h3] | rw [h4])
         go_ret
         exact ⟨ret_bool HF.out.symm, bel_new _ _⟩
set_option maxRecDepth 100000 in
set_option maxHeartbeats 1600000 in
theorem l05Answer_any (k t h e0 : Int) (w : World) :
 Calls Tryd.prog 58 #[.agg #[.int .i64 k, .int .i64 t, .int .i64 h, .int .i64 e0]] w fun e w' => e = .returned (.bool (bOf (AnsOK k t h e0))) ∧ Below w.heap.size w w' := by
 cases h1 : inB k 1 8 with
 | false =>
   have HF : Hid (bOf (AnsOK k t h e0) = false) := bOf_false fun h => by have := (h.1); rw [h1] at this; cases this
   go_enter Tryd.func58, Tryd.ntmps58
   go_wp2_with (go_at_call 49; refine (l01In_any _ _ _ _).mono ?_; rintro e w1 ⟨rfl, rfl⟩; rw [h1])
   go_ret
   exact ⟨ret_bool HF.out.symm, bel_new _ _⟩
 | true =>
   cases h2 : inB t 0 1000000 with
   | false =>
     have HF : Hid (bOf (AnsOK k t h e0) = false) := bOf_false fun h => by have := (h.2.1); rw [h2] at this; cases this
     go_enter Tryd.func58, Tryd.ntmps58
     go_wp2_with (go_at_call 49; refine (l01In_any _ _ _ _).mono ?_; rintro e w1 ⟨rfl, rfl⟩; first | rw [h1] | rw [h2])
     go_ret
     exact ⟨ret_bool HF.out.symm, bel_new _ _⟩
   | true =>
     cases h3 : inB h (-1) 255 with
     | false =>
       have HF : Hid (bOf (AnsOK k t h e0) = false) := bOf_false fun h => by have := (h.2.2.1); rw [h3] at this; cases this
       go_enter Tryd.func58, Tryd.ntmps58
       go_wp2_with (go_at_call 49; refine (l01In_any _ _ _ _).mono ?_; rintro e w1 ⟨rfl, rfl⟩; first | rw [h1] | rw [h2] | rw [h3])
       go_ret
       exact ⟨ret_bool HF.out.symm, bel_new _ _⟩
     | true =>
       cases h4 : inB e0 0 2000000000 with
       | false =>
         have HF : Hid (bOf (AnsOK k t h e0) = false) := bOf_false fun h => by have := (h.2.2.2); rw [h4] at this; cases this
         go_enter Tryd.func58, Tryd.ntmps58
         go_wp2_with (go_at_call 49; refine (l01In_any _ _ _ _).mono ?_; rintro e w1 ⟨rfl, rfl⟩; first | rw [h1] | rw [h2] | rw [h3] | rw [h4])
         go_ret
         exact ⟨ret_bool HF.out.symm, bel_new _ _⟩
       | true =>
         have HF : Hid (bOf (AnsOK k t h e0) = true) := bOf_true ⟨h1, h2, h3, h4⟩
         go_enter Tryd.func58, Tryd.ntmps58
         go_wp2_with (go_at_call 49; refine (l01In_any _ _ _ _).mono ?_; rintro e w1 ⟨rfl, rfl⟩; first | rw [h1] | rw [h2] | rw [h3] | rw [h4])
         go_ret
         exact ⟨ret_bool HF.out.symm, bel_new _ _⟩
theorem pc_ge {xs : List Sn} : ∀ {k : Nat}, (∀ (j : Nat) (y : Sn), j < k → xs[j]? = some y → SOne (pc xs j) y) → k ≤ xs.length → 0 ≤ pc xs k
 | 0, _, _ => by unfold pc; simp
 | k + 1, h, hk => by
   obtain ⟨x, hx⟩ := Tw.get_at (xs := xs) (k := k) (by omega)
   have ih := pc_ge (k := k) (fun j y hj hy => h j y (by omega) hy) (by omega)
   have := (inB_le (h k x (by omega) hx).1).1
   rw [pc_succ hx]
   omega
def SnOK (x : Sn) : Prop := inB x.c 0 255 = true ∧ inB x.s 1 65535 = true ∧ AnsOK x.k x.t x.h x.e
theorem sone_iff {p : Int} {x : Sn} (h : 0 ≤ p) : SOne p x ↔ (¬ x.c < p ∧ SnOK x) := by
 unfold SOne SnOK
 have e : inB x.c p 255 = true ↔ (¬ x.c < p ∧ inB x.c 0 255 = true) := by
  unfold inB
  simp
  omega
 rw [e, and_assoc]
set_option maxRecDepth 100000 in
set_option maxHeartbeats 1600000 in
theorem seenOK_any (x : Sn) (w : World) :
 Calls Tryd.prog 85 #[snV x] w fun e w' => e = .returned (.bool (bOf (SnOK x))) ∧ Below w.heap.size w w' := by
 unfold snV
 cases h1 : inB x.c 0 255 with
 | false =>
   have HF : Hid (bOf (SnOK x) = false) := bOf_false fun h => by have := h.1; rw [h1] at this; cases this
   go_enter Tryd.func85, Tryd.ntmps85
   go_wp2_with (go_at_call 43; refine (within_any _ _ _ _).mono ?_; rintro e w1 ⟨rfl, rfl⟩; rw [h1])
   go_ret
   exact ⟨ret_bool HF.out.symm, bel_new _ _⟩
 | true =>
   cases h2 : inB x.s 1 65535 with
   | false =>
     have HF : Hid (bOf (SnOK x) = false) := bOf_false fun h => by have := h.2.1; rw [h2] at this; cases this
     go_enter Tryd.func85, Tryd.ntmps85
     go_wp2_with (go_at_call 43; refine (within_any _ _ _ _).mono ?_; rintro e w1 ⟨rfl, rfl⟩; first | rw [h1] | rw [h2])
     go_ret
     exact ⟨ret_bool HF.out.symm, bel_new _ _⟩
   | true =>
     have HF : Hid (bOf (SnOK x) = bOf (AnsOK x.k x.t x.h x.e)) := by
      show _ = _
      by_cases h : AnsOK x.k x.t x.h x.e
      ·rw [bOf_true h, bOf_true (show SnOK x from ⟨h1, h2, h⟩)]
      ·rw [bOf_false h, bOf_false (fun g : SnOK x => h g.2.2)]
     go_enter Tryd.func85, Tryd.ntmps85
     go_wp2_with (first | (go_at_call 43; refine (within_any _ _ _ _).mono ?_; rintro e w1 ⟨rfl, rfl⟩; first | rw [h1] | rw [h2]) | (go_at_call 104; refine (answerOK_any _ _ _ _ _).mono ?_; rintro e w2 ⟨rfl, b2⟩))
     go_ret
     exact ⟨ret_bool HF.out.symm, (bel_new _ _).trans (b2.mono (bel_new _ _).size)⟩
set_option maxRecDepth 100000 in
set_option maxHeartbeats 1600000 in
theorem seensOK_any (v : Value) (xs : List Sn) (w : World) (h : RowS w v xs) (hl : xs.length ≤ 1048576) :
 Calls Tryd.prog 55 #[v] w fun e w' => e = .returned (.bool (bOf (SsOK xs))) ∧ Below w.heap.size w w' := by
 have HR : Hid (RowS w v xs) := h
 obtain ⟨a, cap, rfl⟩ := RowG.slice h
 clear h
 go_enter Tryd.func55, Tryd.ntmps55
 go_wp2_with fail
 go_loopw [3, 8] (fun p i wr => ∃ k : Nat, k ≤ xs.length ∧ i = .int .i64 k ∧ p = .int .i64 (pc xs k) ∧ Hid ((∀ (j : Nat) (y : Sn), j < k → xs[j]? = some y → SOne (pc xs j) y) ∧ Below w.heap.size w wr)) (fun _ i _ => xs.length - (intOf i).toNat)
 case atStart => exact ⟨0, by omega, rfl, rfl, ⟨fun j y hj => by omega, Below.refl _ _⟩⟩
 case round =>
  obtain ⟨k, hk, rfl, rfl, HK⟩ := hrel
  by_cases hlt : k < xs.length
  ·obtain ⟨x, hx⟩ := Tw.get_at hlt
   obtain ⟨b, off, rfl, hbl, c0, c1, c2, c3, c4, c5⟩ := RowG.at (HR.out.below HK.out.2) rfl hx
   have HN : Hid (SOne (pc xs k) x ↔ (¬ x.c < pc xs k ∧ SnOK x)) := sone_iff (pc_ge HK.out.1 (by omega))
   have HNO : Hid (¬ SOne (pc xs k) x → bOf (SsOK xs) = false) := fun h => bOf_false fun hh => h (hh k x hx)
   have HYS : Hid (SOne (pc xs k) x → ∀ (j : Nat) (y : Sn), j < k + 1 → xs[j]? = some y → SOne (pc xs j) y) := fun h => upto (P := fun j y => SOne (pc xs j) y) HK.out.1 hx h
   have HP : Hid (pc xs (k + 1) = x.c + 1) := pc_succ hx
   have HW : Hid (∀ o, Below w.heap.size w (wr.alloc o)) := fun o => HK.out.2.trans ((bel_new wr o).mono HK.out.2.size)
   have HSN : Hid (∀ o, Calls Tryd.prog 85 #[.agg #[.int .i64 x.c, .int .i64 x.s, .int .i64 x.k, .int .i64 x.t, .int .i64 x.h, .int .i64 x.e]] (wr.alloc o) fun e w' => e = .returned (.bool (bOf (SnOK x))) ∧ (∀ i, w'.cell? ⟨wr.heap.size, i, none⟩ = (wr.alloc o).cell? ⟨wr.heap.size, i, none⟩) ∧ Below w.heap.size w w') := fun o =>
    (seenOK_any x _).mono fun e w' ⟨he, hb⟩ => ⟨he, fun i => hb.cell (p := ⟨wr.heap.size, i, none⟩) (by rw [size_new]; exact Nat.lt_succ_self _), (HW.out o).trans (hb.mono (HW.out o).size)⟩
   clear hx
   generalize pc xs k = p at HN HNO HYS ⊢
   by_cases h1 : x.c < p
   ·have HF : Hid (bOf (SsOK xs) = false) := HNO.out fun h => (HN.out.1 h).1 h1
    go_wp2_with fail
    go_ret
    exact ⟨ret_bool HF.out.symm, HW.out _⟩
   ·cases h3 : bOf (SnOK x) with
    | false =>
      have HF : Hid (bOf (SsOK xs) = false) := HNO.out fun h => by rw [bOf_true (HN.out.1 h).2] at h3; cases h3
      rw [h3] at HSN
      clear h3
      go_wp2_with (go_at_call 85; refine (HSN.out _).mono ?_; rintro e w2 ⟨rfl, _, g2⟩)
      go_ret
      exact ⟨ret_bool HF.out.symm, g2⟩
    | true =>
      have hs : SnOK x := Classical.byContradiction fun hn => by rw [bOf_false hn] at h3; cases h3
      have HT : Hid (SOne p x) := HN.out.2 ⟨h1, hs⟩
      have hb1 : 0 ≤ x.c ∧ x.c ≤ 255 := inB_le hs.1
      rw [h3] at HSN
      clear h3 hs
      go_wp2_with (go_at_call 85; refine (HSN.out _).mono ?_; rintro e w2 ⟨rfl, q2, g2⟩; have q20 := q2 0)
      exact ⟨⟨k + 1, by omega, by go_num, by rw [HP.out], ⟨HYS.out HT.out, g2⟩⟩, by simp [intOf]; omega⟩
  ·obtain rfl : k = xs.length := by omega
   have HT : Hid (bOf (SsOK xs) = true) := bOf_true fun j y hy => HK.out.1 j y (lt_at hy) hy
   go_wp2_with fail
   go_ret
   exact ⟨ret_bool HT.out.symm, HK.out.2⟩
set_option maxRecDepth 100000 in
set_option maxHeartbeats 1600000 in
theorem locksOK_any (v : Value) (xs : List Lk) (nx : Int) (w : World) (h : RowL w v xs) (hl : xs.length ≤ 1048576) (hw : ∀ x ∈ xs, x.n.size ≤ 1048576 ∧ x.ws.length ≤ 1048576) (hn1 : 1 ≤ nx) (hn2 : nx ≤ 1000000) :
 Calls Tryd.prog 54 #[v, .int .i64 nx] w fun e w' => e = .returned (.bool (bOf (LsOK nx xs))) ∧ Below w.heap.size w w' := by
 have HR : Hid (RowL w v xs ∧ ∀ x ∈ xs, x.n.size ≤ 1048576 ∧ x.ws.length ≤ 1048576) := ⟨h, hw⟩
 obtain ⟨a, cap, rfl⟩ := RowG.slice h
 clear h hw
 go_enter Tryd.func54, Tryd.ntmps54
 go_wp2_with fail
 go_loopw [5, 10] (fun p i wr => ∃ k : Nat, k ≤ xs.length ∧ i = .int .i64 k ∧ p = .string (pn xs k) ∧ Hid ((∀ (j : Nat) (y : Lk), j < k → xs[j]? = some y → LOne nx (pn xs j) y) ∧ Below w.heap.size w wr)) (fun _ i _ => xs.length - (intOf i).toNat)
 case atStart => exact ⟨0, by omega, rfl, rfl, ⟨fun j y hj => by omega, Below.refl _ _⟩⟩
 case round =>
  obtain ⟨k, hk, rfl, rfl, HK⟩ := hrel
  by_cases hlt : k < xs.length
  ·obtain ⟨x, hx⟩ := Tw.get_at hlt
   obtain ⟨b, off, rfl, hbl, u, c0, c1, c2, c3, c4, c5⟩ := RowG.at (HR.out.1.below HK.out.2) rfl hx
   obtain ⟨ua, uc, rfl⟩ := RowG.slice c5
   have HN : Hid (LOne nx (pn xs k) x ↔ ((Op.bytesLess x.n.toList (pn xs k).toList || x.n.toList == (pn xs k).toList) = false ∧ opB x.n = true ∧ inB x.t 0 (nx - 1) = true ∧ HdOK x)) := Iff.rfl
   have HNO : Hid (¬ LOne nx (pn xs k) x → bOf (LsOK nx xs) = false) := fun h => bOf_false fun hh => h (hh k x hx)
   have HYS : Hid (LOne nx (pn xs k) x → ∀ (j : Nat) (y : Lk), j < k + 1 → xs[j]? = some y → LOne nx (pn xs j) y) := fun h => upto (P := fun j y => LOne nx (pn xs j) y) HK.out.1 hx h
   have HP : Hid (pn xs (k + 1) = x.n) := pn_succ hx
   have HW : Hid (∀ o, Below w.heap.size w (wr.alloc o)) := fun o => HK.out.2.trans ((bel_new wr o).mono HK.out.2.size)
   -- the box and what it holds, in every later world
   have HBX : Hid (∀ W, Below (wr.alloc (.cells #[.string x.n, .int .i64 x.t, .int .i64 x.h, .int .i64 x.e, .slice ua x.ws.length uc] 52)).heap.size (wr.alloc (.cells #[.string x.n, .int .i64 x.t, .int .i64 x.h, .int .i64 x.e, .slice ua x.ws.length uc] 52)) W → W.cell? ⟨wr.heap.size, 0, none⟩ = some (.string x.n) ∧ W.cell? ⟨wr.heap.size, 1, none⟩ = some (.int .i64 x.t) ∧ W.cell? ⟨wr.heap.size, 2, none⟩ = some (.int .i64 x.h) ∧ W.cell? ⟨wr.heap.size, 3, none⟩ = some (.int .i64 x.e) ∧ W.cell? ⟨wr.heap.size, 4, none⟩ = some (.slice ua x.ws.length uc) ∧ RowW W (.slice ua x.ws.length uc) x.ws ∧ Below w.heap.size w W) := fun W hW => by
    have h1 := (hW.block wr.heap.size (by simp)).trans (heap_alloc_new wr _)
    exact ⟨(blk_cell h1 0 rfl).1, (blk_cell h1 1 rfl).1, (blk_cell h1 2 rfl).1, (blk_cell h1 3 rfl).1, (blk_cell h1 4 rfl).1, (c5.below (bel_new _ _)).below hW, (HW.out _).trans (hW.mono (HW.out _).size)⟩
   have HZ : Hid (x.n.size ≤ maxLen ∧ x.ws.length ≤ 1048576) := by have := HR.out.2 x (mem_at hx); exact ⟨by unfold maxLen; omega, this.2⟩
   clear hx c5
   generalize pn xs k = p at HN HNO HYS ⊢
   go_upto_region 5 with fail
   clear c0 c1 c2 c3 c4
   generalize wr.alloc (.cells #[.string x.n, .int .i64 x.t, .int .i64 x.h, .int .i64 x.e, .slice ua x.ws.length uc] 52) = wb at HBX ⊢
   obtain ⟨b0, b1, b2, b3, b4, _, g0⟩ := HBX.out wb (Below.refl _ _)
   have HG0 : Hid (Below w.heap.size w wb) := g0
   clear g0
   cases h1 : (Op.bytesLess x.n.toList p.toList || x.n.toList == p.toList) with
   | true =>
     have HF : Hid (bOf (LsOK nx xs) = false) := HNO.out fun h => by have := (HN.out.1 h).1; rw [h1] at this; cases this
     go_wp2_with fail
     go_ret
     exact ⟨ret_bool HF.out.symm, HG0.out⟩
   | false =>
     have h1a : Op.bytesLess x.n.toList p.toList = false := by cases hh : Op.bytesLess x.n.toList p.toList; rfl; rw [hh] at h1; cases h1
     have h1b : (x.n.toList == p.toList) = false := by cases hh : (x.n.toList == p.toList); rfl; rw [hh, Bool.or_true] at h1; cases h1
     -- the name's test adds to memory
     have HNM : Hid (Calls Tryd.prog 83 #[.string x.n] wb fun e w' => e = .returned (.bool (opB x.n)) ∧ w'.cell? ⟨wr.heap.size, 0, none⟩ = some (.string x.n) ∧ w'.cell? ⟨wr.heap.size, 1, none⟩ = some (.int .i64 x.t) ∧ w'.cell? ⟨wr.heap.size, 2, none⟩ = some (.int .i64 x.h) ∧ w'.cell? ⟨wr.heap.size, 3, none⟩ = some (.int .i64 x.e) ∧ w'.cell? ⟨wr.heap.size, 4, none⟩ = some (.slice ua x.ws.length uc) ∧ Hid (Below wb.heap.size wb w') ∧ Hid (Below w.heap.size w w')) := (opNameOK_any x.n wb HZ.out.1).mono fun e w' ⟨he, hb⟩ => by
      obtain ⟨q0, q1, q2, q3, q4, _, q6⟩ := HBX.out w' hb
      exact ⟨he, q0, q1, q2, q3, q4, hb, q6⟩
     have HHD : Hid (∀ w1, Below wb.heap.size wb w1 → Calls Tryd.prog 84 #[.agg #[.string x.n, .int .i64 x.t, .int .i64 x.h, .int .i64 x.e, .slice ua x.ws.length uc]] w1 fun e w' => e = .returned (.bool (bOf (HdOK x))) ∧ w'.cell? ⟨wr.heap.size, 0, none⟩ = some (.string x.n) ∧ Hid (Below w.heap.size w w')) := fun w1 hb1 => (holdOK_any x _ w1 (HBX.out w1 hb1).2.2.2.2.2.1 HZ.out.2).mono fun e w' ⟨he, hb⟩ => by
      obtain ⟨q0, _, _, _, _, _, q6⟩ := HBX.out w' (hb1.trans (hb.mono hb1.size))
      exact ⟨he, q0, q6⟩
     cases h2 : opB x.n with
     | false =>
       have HF : Hid (bOf (LsOK nx xs) = false) := HNO.out fun h => by have := (HN.out.1 h).2.1; rw [h2] at this; cases this
       rw [h2] at HNM
       go_wp2_with (go_at_call 83; refine HNM.out.mono ?_; rintro e w1 ⟨rfl, r0, r1, r2, r3, r4, R5, R6⟩)
       go_ret
       exact ⟨ret_bool HF.out.symm, R6.out⟩
     | true =>
       rw [h2] at HNM
       cases h3 : inB x.t 0 (nx - 1) with
       | false =>
         have HF : Hid (bOf (LsOK nx xs) = false) := HNO.out fun h => by have := (HN.out.1 h).2.2.1; rw [h3] at this; cases this
         go_wp2_with (first | (go_at_call 83; refine HNM.out.mono ?_; rintro e w1 ⟨rfl, r0, r1, r2, r3, r4, R5, R6⟩; clear b0 b1 b2 b3 b4) | (go_at_call 43; refine (within_any _ _ _ _).mono ?_; rintro e w2 ⟨rfl, rfl⟩; rw [h3]))
         go_ret
         exact ⟨ret_bool HF.out.symm, R6.out⟩
       | true =>
         cases h4 : bOf (HdOK x) with
         | false =>
           have HF : Hid (bOf (LsOK nx xs) = false) := HNO.out fun h => by rw [bOf_true (HN.out.1 h).2.2.2] at h4; cases h4
           rw [h4] at HHD
           clear h4
           go_wp2_with (first | (go_at_call 83; refine HNM.out.mono ?_; rintro e w1 ⟨rfl, r0, r1, r2, r3, r4, R5, R6⟩; clear b0 b1 b2 b3 b4) | (go_at_call 43; refine (within_any _ _ _ _).mono ?_; rintro e w2 ⟨rfl, rfl⟩; rw [h3]) | (go_at_call 84; refine (HHD.out _ R5.out).mono ?_; rintro e w3 ⟨rfl, s0, R7⟩))
           go_ret
           exact ⟨ret_bool HF.out.symm, R7.out⟩
         | true =>
           have HT : Hid (LOne nx p x) := HN.out.2 ⟨h1, h2, h3, Classical.byContradiction fun hn => by rw [bOf_false hn] at h4; cases h4⟩
           rw [h4] at HHD
           clear h4 h1
           go_wp2_with (first | (go_at_call 83; refine HNM.out.mono ?_; rintro e w1 ⟨rfl, r0, r1, r2, r3, r4, R5, R6⟩; clear b0 b1 b2 b3 b4) | (go_at_call 43; refine (within_any _ _ _ _).mono ?_; rintro e w2 ⟨rfl, rfl⟩; rw [h3]) | (go_at_call 84; refine (HHD.out _ R5.out).mono ?_; rintro e w3 ⟨rfl, s0, R7⟩; clear r0 r1 r2 r3 r4))
           exact ⟨⟨k + 1, by omega, by go_num, by rw [HP.out], ⟨HYS.out HT.out, R7.out⟩⟩, by simp [intOf]; omega⟩
  ·obtain rfl : k = xs.length := by omega
   have HT : Hid (bOf (LsOK nx xs) = true) := bOf_true fun j y hy => HK.out.1 j y (lt_at hy) hy
   go_wp2_with fail
   go_ret
   exact ⟨ret_bool HT.out.symm, HK.out.2⟩
end Go.Proofs.YtakfniknkejgpaaDoor.Tp
