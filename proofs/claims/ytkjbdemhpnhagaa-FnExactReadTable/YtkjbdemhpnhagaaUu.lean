/- A table is taken off the wire: what impl.takeTable answers. -/
import Derived.Test.YtkjbdemhpnhagaaUt
namespace Go.Proofs.Ytkjbdemhpnhagaa.Ur
open Go.RowKit Go.Proofs.Ytkjbdemhpnhagaa.Sl Go.Proofs.Ytkjbdemhpnhagaa.By Go.Proofs.Ytkjbdemhpnhagaa.Ap Go.Proofs.Ytkjbdemhpnhagaa.Rr Go.Proofs.Ytkjbdemhpnhagaa.Tb Go.Proofs.Ytkjbdemhpnhagaa.Tw
open Go.Proofs.Ytkjbdemhpnhagaa.Wa (OwnW OwnS clS oneS infoS)
open Go.Proofs.Ytkjbdemhpnhagaa.Lo (LkA uV clL oneL OwnL own_block kind_ne infoL)

theorem itR_succ (f : List Int → List Int) (k : Nat) (xs : List Int) : itR f (k + 1) xs = f (itR f k xs) := rfl
theorem itS_succ (f : List Int → List Int) (g : List Int → Bool → Bool) (k : Nat) (xs : List Int) (sh : Bool) : itS f g (k + 1) xs sh = g (itR f k xs) (itS f g k xs sh) := rfl
theorem itL_succ {α : Type} (f : List Int → List Int) (o : List Int → α) (k : Nat) (xs : List Int) : itL f o (k + 1) xs = itL f o k xs ++ [o (itR f k xs)] := rfl
theorem OwnW.apart {w : World} {B : Nat} {u : Value} {ws : List Wt} (h : OwnW w B u ws) {x : LkA} (hx : ∀ g, (uV x).ownBlock = some g → g < B) : ∀ g, (uV x).ownBlock = some g → u.ownBlock ≠ some g := fun g hg e => by
  have := hx g hg
  have := (h.lt g e).1
  omega
set_option maxRecDepth 100000 in
set_option maxHeartbeats 1600000 in
theorem takeTable_any (p B : Nat) (xs : List Int) (sh : Bool) (w : World) (h : Rdr B w p xs sh) (hB : B ≤ p) (hx : xs.length ≤ 70000) (hr : ∀ x ∈ xs, 0 ≤ x ∧ x ≤ 255) :
    Calls Try.prog 56 #[.pointer (some ⟨p, 0, none⟩)] w fun e w' => ∃ u2 u3 ms, e = .returned (tabV (tbO xs).tm (tbO xs).nx u2 u3) ∧ (ms.map (·.1) = (tbO xs).ls ∧ Mem w' w.heap.size u2 u3 ms (tbO xs).ss) ∧ Rdr B w' p (tbR xs) (tbS xs sh) ∧ w.grownBy w' (some p) := by
  obtain ⟨i0, hi0, hz0, hz1, hz2⟩ := info_parts infoL
  obtain ⟨j0, hj0, hy0, hy1, hy2⟩ := info_parts infoS
  have L0 : Hid (Lc w ((w.alloc (.cells #[.int .i64 0, .int .i64 0, .slice none 0 0, .slice none 0 0] 31)).alloc (.cells #[.int .i64 0, .int .i64 0, .slice none 0 0, .slice none 0 0] 31)) p B 31 #[.int .i64 0, .int .i64 0, .slice none 0 0, .slice none 0 0] #[.int .i64 0, .int .i64 0, .slice none 0 0, .slice none 0 0] xs sh) := Lc.start h hB _ _
  have HR0 : Hid (∀ x ∈ xs, 0 ≤ x ∧ x ≤ 255) := hr
  have HX0 : Hid (xs.length ≤ 70000) := hx
  clear h hr hx
  go_enter Try.func56, Try.ntmps56
  go_wp2_with fail
  generalize (w.alloc (.cells #[.int .i64 0, .int .i64 0, .slice none 0 0, .slice none 0 0] 31)).alloc (.cells #[.int .i64 0, .int .i64 0, .slice none 0 0, .slice none 0 0] 31) = w0 at L0 ⊢
  have N0 := number_any 4 p B xs sh _ L0.out.rd hB (by decide) HX0.out HR0.out
  have HR1 : Hid (∀ x ∈ (tkR 4 xs), 0 ≤ x ∧ x ≤ 255) := tkR_range HR0.out
  have HX1 : Hid (((tkR 4 xs)).length ≤ 70000) := Nat.le_trans (tkR_len _ _) HX0.out
  obtain ⟨z0, HZ0⟩ : ∃ z, Hid (beN (tkB 4 xs) = z) := ⟨_, rfl⟩
  rw [HZ0.out] at N0
  refine N0.mono ?_
  rintro e w1 ⟨rfl, r, g⟩
  have l := L0.out.num r g
  obtain ⟨c, f⟩ := blk_cell l.b 0 (x := .int .i64 0) rfl
  have L1 : Hid (Lc w (w1.setCell ⟨w.heap.size + 1, 0, none⟩ (.int .i64 z0)) p B 31 #[.int .i64 0, .int .i64 0, .slice none 0 0, .slice none 0 0] #[.int .i64 z0, .int .i64 0, .slice none 0 0, .slice none 0 0] (tkR 4 xs) (tkS 4 xs sh)) := l.set 0 _
  clear l r g L0 N0 HR0 HX0
  go_wp2_with fail
  clear c f
  generalize w1.setCell ⟨w.heap.size + 1, 0, none⟩ (.int .i64 z0) = w1' at L1 ⊢
  have N1 := number_any 3 p B (tkR 4 xs) (tkS 4 xs sh) _ L1.out.rd hB (by decide) HX1.out HR1.out
  have HR2 : Hid (∀ x ∈ (tkR 3 (tkR 4 xs)), 0 ≤ x ∧ x ≤ 255) := tkR_range HR1.out
  have HX2 : Hid (((tkR 3 (tkR 4 xs))).length ≤ 70000) := Nat.le_trans (tkR_len _ _) HX1.out
  obtain ⟨z1, HZ1⟩ : ∃ z, Hid (beN (tkB 3 (tkR 4 xs)) = z) := ⟨_, rfl⟩
  rw [HZ1.out] at N1
  refine N1.mono ?_
  rintro e w2 ⟨rfl, r, g⟩
  have l := L1.out.num r g
  obtain ⟨c, f⟩ := blk_cell l.b 1 (x := .int .i64 0) rfl
  have L2 : Hid (Lc w (w2.setCell ⟨w.heap.size + 1, 1, none⟩ (.int .i64 z1)) p B 31 #[.int .i64 0, .int .i64 0, .slice none 0 0, .slice none 0 0] #[.int .i64 z0, .int .i64 z1, .slice none 0 0, .slice none 0 0] (tkR 3 (tkR 4 xs)) (tkS 3 (tkR 4 xs) (tkS 4 xs sh))) := l.set 1 _
  clear l r g L1 N1 HR1 HX1
  go_wp2_with fail
  clear c f
  generalize w2.setCell ⟨w.heap.size + 1, 1, none⟩ (.int .i64 z1) = w2' at L2 ⊢
  have HEO : Hid (tbO xs = ⟨z0, z1, itL lkR lkO (cnt (tb2 xs)) (tbA xs), itL snR snO (cnt (tbB xs)) (tbC xs)⟩) := by
    show _ = _
    unfold tbO nv
    rw [HZ0.out, HZ1.out]
  have HEB : Hid (tbB xs = itR lkR (cnt (tb2 xs)) (tbA xs) ∧ tbS2 xs sh = tkS 1 (tbB xs) (itS lkR lkS (cnt (tb2 xs)) (tbA xs) (tbS1 xs sh))) := ⟨rfl, rfl⟩
  have HER : Hid (tbR xs = itR snR (cnt (tbB xs)) (tbC xs) ∧ tbS xs sh = itS snR snS (cnt (tbB xs)) (tbC xs) (tbS2 xs sh)) := ⟨rfl, rfl⟩
  have N2 := number_any 1 p B (tb2 xs) (tkS 3 (tkR 4 xs) (tkS 4 xs sh)) _ L2.out.rd hB (by decide) HX2.out HR2.out
  have nb := nv_range (n := 1) (xs := tb2 xs) HR2.out
  have hcn : beN (tkB 1 (tb2 xs)) = (cnt (tb2 xs) : Int) := by unfold cnt nv; unfold nv at nb; omega
  have hc2 : cnt (tb2 xs) ≤ 255 := by
    simp only [show ((256 : Int) ^ 1) = 256 from rfl] at nb
    unfold cnt; omega
  have HRA : Hid (∀ x ∈ tbA xs, 0 ≤ x ∧ x ≤ 255) := tkR_range HR2.out
  have HXA : Hid ((tbA xs).length ≤ 70000) := Nat.le_trans (tkR_len _ _) HX2.out
  rw [hcn] at N2
  obtain ⟨n, HNN⟩ : ∃ n, Hid (cnt (tb2 xs) = n) := ⟨_, rfl⟩
  obtain ⟨ys, HYS⟩ : ∃ ys, Hid (tbA xs = ys) := ⟨_, rfl⟩
  obtain ⟨s0, HS0⟩ : ∃ s0, Hid (tbS1 xs sh = s0) := ⟨_, rfl⟩
  rw [HNN.out] at N2 hc2 HEO HEB
  rw [HYS.out] at HEO HEB HRA HXA
  rw [HS0.out] at HEB
  clear nb hcn
  refine N2.mono ?_
  rintro e w3 ⟨rfl, r, g⟩
  have l3 : Lc w w3 p B 31 #[.int .i64 0, .int .i64 0, .slice none 0 0, .slice none 0 0] #[.int .i64 z0, .int .i64 z1, .slice none 0 0, .slice none 0 0] (tbA xs) (tbS1 xs sh) := L2.out.num r g
  rw [HYS.out, HS0.out] at l3
  have T3 : Hid (Tt w w3 p B z0 z1 (.slice none 0 0) (.slice none 0 0) [] [] ys s0) := ⟨l3, ⟨World.ownsRow_nil _ _ _ _, fun m hm => (by cases hm), List.Pairwise.nil, OwnS.nil _ _⟩⟩
  have HRY : Hid (∀ k, ∀ x ∈ itR lkR k ys, 0 ≤ x ∧ x ≤ 255) := fun k => (less_it less_lk k ys).2 HRA.out
  have HXY : Hid (∀ k, (itR lkR k ys).length ≤ 70000) := fun k => Nat.le_trans (less_it less_lk k ys).1 HXA.out
  clear r g L2 N2 HR2 HX2 l3 HRA HXA HYS HS0 HNN
  go_wp2_with fail
  go_loopw [12] (fun i wr => ∃ (k : Nat) (a : Option Addr) (c : Nat) (ms : List LkA), k ≤ n ∧ i = .int .i64 (k : Int) ∧ Hid (ms.map (·.1) = itL lkR lkO k ys ∧ Tt w wr p B z0 z1 (.slice a k c) (.slice none 0 0) ms [] (itR lkR k ys) (itS lkR lkS k ys s0))) (fun i _ => n - (intOf i).toNat)
  case atStart => exact ⟨0, none, 0, [], by omega, rfl, rfl, T3.out⟩
  case round =>
    clear T3
    obtain ⟨k, a, c, ms, hk, rfl, HT⟩ := hrel
    by_cases hlt : k < n
    · have HLM : Hid (ms.length = k) := by
        have := congrArg List.length HT.out.1
        rw [List.length_map, itL_len] at this
        exact this
      have HLN : Hid (ms.length ≤ 1000000) := by show _ ≤ _; rw [HLM.out]; omega
      have HTL : Hid (∀ W, Tt w W p B z0 z1 (.slice a k c) (.slice none 0 0) ms [] (itR lkR k ys) (itS lkR lkS k ys s0) → Calls Try.prog 77 #[.pointer (some ⟨p, 0, none⟩)] W fun e w' => ∃ (ua : Option Addr) (uc : Nat), e = .returned (.agg #[.string (lkO (itR lkR k ys)).n, .int .i64 (lkO (itR lkR k ys)).t, .int .i64 (lkO (itR lkR k ys)).h, .int .i64 (lkO (itR lkR k ys)).e, .slice ua (lkO (itR lkR k ys)).ws.length uc]) ∧ Tn w w' p B z0 z1 (.slice a k c) (.slice none 0 0) ms (lkO (itR lkR k ys), ua, uc) [] (lkR (itR lkR k ys)) (lkS (itR lkR k ys) (itS lkR lkS k ys s0))) := fun W hW => by
        refine (takeLock_any p B (itR lkR k ys) (itS lkR lkS k ys s0) W hW.lc.rd hB (HXY.out k) (HRY.out k)).mono ?_
        rintro e w' ⟨u, rfl, ou, r, g⟩
        obtain ⟨ua, uc, rfl⟩ := ou.slice
        refine ⟨ua, uc, rfl, hW.num r g, ou.mono hW.lc.size, fun x hx q hq => ?_⟩
        exact OwnW.apart ou (x := x) (fun g hg => ((hW.me.ow x hx).lt g hg).2) q hq
      have HMP0 : ∀ (ua : Option Addr) (uc : Nat), (ms ++ [(lkO (itR lkR k ys), ua, uc)]).map (·.1) = itL lkR lkO (k + 1) ys := fun ua uc => by
        rw [List.map_append, HT.out.1, itL_succ]
        rfl
      obtain ⟨l, HL⟩ : ∃ l, Hid (lkO (itR lkR k ys) = l) := ⟨_, rfl⟩
      rw [HL.out] at HTL
      simp only [HL.out] at HMP0
      have HMP : Hid (∀ (ua : Option Addr) (uc : Nat), (ms ++ [(l, ua, uc)]).map (·.1) = itL lkR lkO (k + 1) ys) := HMP0
      have t0 := HT.out.2
      have q0 := t0.c2
      have q1 := t0.drew.c2
      clear HT HMP0 HL
      obtain ⟨r1, HR1⟩ : ∃ r1, Hid (lkR (itR lkR k ys) = r1) := ⟨_, rfl⟩
      obtain ⟨b1, HB1⟩ : ∃ b1, Hid (lkS (itR lkR k ys) (itS lkR lkS k ys s0) = b1) := ⟨_, rfl⟩
      rw [HR1.out, HB1.out] at HTL
      clear HRY HXY HEO HEB HER HZ0 HZ1 hj0 hy0 hy1 hy2 hB
      go_upto_region 6 with fail
      go_region_law
        (first
          | (go_simp; go_at_call 77; (with_reducible refine (HTL.out _ (by first | assumption | exact Tt.drew (by assumption))).mono ?_); rintro e wn ⟨ua, uc, rfl, tn⟩; have qn := tn.c2; have qa := fun o => Tn.c2 (tn.alloc o); have qd := Tn.c2 tn.drew; try go_simp)
          | (refine step_lk (by rfl) _ _ 28 (by rfl) Try.underlying28 hi0 hz0 hz1 hz2 _ w p B z0 z1 _ _ ms (l, ua, uc) [] _ _ (by rfl) _ (by rfl) (by first | exact heap_alloc_new _ _ | exact (heap_alloc_new _ _ : (World.alloc _ _).drew.heap[_]? = _)) (by first | assumption | exact Tn.drew (by assumption) | exact Tn.alloc (by assumption) _ | exact Tn.drew (Tn.alloc (by assumption) _) | exact Tn.alloc (Tn.drew (by assumption)) _) HLN.out ?_; intro v5 w5 t5; obtain ⟨a5, cap5, rfl⟩ := t5.me.ol.slice; obtain ⟨s5, f5⟩ := t5.c2; try go_simp))
      all_goals
        have hl5 : (ms ++ [(l, ua, uc)]).length = k + 1 := by rw [List.length_append, HLM.out]; rfl
        rw [hl5] at t5
        rw [HLM.out]
        have T5 : Hid ((ms ++ [(l, ua, uc)]).map (·.1) = itL lkR lkO (k + 1) ys ∧ Tt w (w5.setCell ⟨w.heap.size + 1, 2, none⟩ (.slice a5 (k + 1) cap5)) p B z0 z1 (.slice a5 (k + 1) cap5) (.slice none 0 0) (ms ++ [(l, ua, uc)]) [] r1 b1) := ⟨HMP.out ua uc, t5.set2⟩
        clear t5 t0 q0 q1 tn qn qd qa hl5
        go_wp2_with fail
        exact ⟨⟨k + 1, a5, cap5, ms ++ [(l, ua, uc)], by omega, by go_num, by rw [itR_succ, itS_succ, HR1.out, HB1.out]; exact T5⟩, by simp [intOf]; omega⟩
    · obtain rfl : k = n := by omega
      have hlm : ms.length = k := by
        have := congrArg List.length HT.out.1
        rw [List.length_map, itL_len] at this
        exact this
      have HMS : Hid (ms.map (·.1) = itL lkR lkO k ys) := HT.out.1
      have TQ : Hid (Tt w wr p B z0 z1 (.slice a k c) (.slice none 0 0) ms [] (tbB xs) (itS lkR lkS k ys s0)) := by rw [HEB.out.1]; exact HT.out.2
      have HRB : Hid (∀ x ∈ tbB xs, 0 ≤ x ∧ x ≤ 255) := by rw [HEB.out.1]; exact HRY.out k
      have HXB : Hid ((tbB xs).length ≤ 70000) := by rw [HEB.out.1]; exact HXY.out k
      have nb := nv_range (n := 1) (xs := tbB xs) HRB.out
      have hcn : beN (tkB 1 (tbB xs)) = (cnt (tbB xs) : Int) := by unfold cnt nv; unfold nv at nb; omega
      have hc3 : cnt (tbB xs) ≤ 255 := by
        simp only [show ((256 : Int) ^ 1) = 256 from rfl] at nb
        unfold cnt; omega
      have HEC : Hid (tbC xs = tkR 1 (tbB xs) ∧ tbS2 xs sh = tkS 1 (tbB xs) (itS lkR lkS k ys s0)) := ⟨rfl, HEB.out.2⟩
      have N3 := number_any 1 p B (tbB xs) (itS lkR lkS k ys s0) _ TQ.out.lc.rd hB (by decide) HXB.out HRB.out
      have HRC : Hid (∀ x ∈ tbC xs, 0 ≤ x ∧ x ≤ 255) := by rw [HEC.out.1]; exact tkR_range HRB.out
      have HXC : Hid ((tbC xs).length ≤ 70000) := by rw [HEC.out.1]; exact Nat.le_trans (tkR_len _ _) HXB.out
      rw [hcn, ← HEC.out.1, ← HEC.out.2] at N3
      obtain ⟨n2, HN2⟩ : ∃ n, Hid (cnt (tbB xs) = n) := ⟨_, rfl⟩
      obtain ⟨zs, HZS⟩ : ∃ zs, Hid (tbC xs = zs) := ⟨_, rfl⟩
      obtain ⟨s1, HS1⟩ : ∃ s1, Hid (tbS2 xs sh = s1) := ⟨_, rfl⟩
      rw [HN2.out] at N3 hc3 HEO HER
      rw [HZS.out] at N3 HEO HER HRC HXC
      rw [HS1.out] at N3 HER
      have HRZ : Hid (∀ k, ∀ x ∈ itR snR k zs, 0 ≤ x ∧ x ≤ 255) := fun k => (less_it less_sn k zs).2 HRC.out
      have HXZ : Hid (∀ k, (itR snR k zs).length ≤ 70000) := fun k => Nat.le_trans (less_it less_sn k zs).1 HXC.out
      clear HT HRY HXY HRB HXB nb hcn HRC HXC HEB HEC
      go_wp2_with fail
      refine N3.mono ?_
      rintro e w5 ⟨rfl, r, g⟩
      have T5 : Hid (Tt w w5 p B z0 z1 (.slice a k c) (.slice none 0 0) ms [] zs s1) := TQ.out.num r g
      clear TQ r g N3
      obtain ⟨n, HKN⟩ : ∃ n, Hid (k = n) := ⟨_, rfl⟩
      rw [HKN.out] at T5 HMS HEO
      go_wp2_with fail
      go_loopw [24] (fun i wr => ∃ (k : Nat) (a2 : Option Addr) (c2 : Nat), k ≤ n2 ∧ i = .int .i64 (k : Int) ∧ Hid (Tt w wr p B z0 z1 (.slice a n c) (.slice a2 k c2) ms (itL snR snO k zs) (itR snR k zs) (itS snR snS k zs s1))) (fun i _ => n2 - (intOf i).toNat)
      case atStart => exact ⟨0, none, 0, by omega, rfl, T5⟩
      case round =>
        clear T5
        obtain ⟨k, a2, c2, hk2, rfl, HT⟩ := hrel
        by_cases hlt : k < n2
        · have HLN : Hid ((itL snR snO k zs).length ≤ 1000000) := by show _ ≤ _; rw [itL_len]; omega
          have HTL : Hid (∀ W, Tt w W p B z0 z1 (.slice a n c) (.slice a2 k c2) ms (itL snR snO k zs) (itR snR k zs) (itS snR snS k zs s1) → Calls Try.prog 78 #[.pointer (some ⟨p, 0, none⟩)] W fun e w' => e = .returned (.agg #[.int .i64 (snO (itR snR k zs)).c, .int .i64 (snO (itR snR k zs)).s, .int .i64 (snO (itR snR k zs)).k, .int .i64 (snO (itR snR k zs)).t, .int .i64 (snO (itR snR k zs)).h, .int .i64 (snO (itR snR k zs)).e]) ∧ Tt w w' p B z0 z1 (.slice a n c) (.slice a2 k c2) ms (itL snR snO k zs) (snR (itR snR k zs)) (snS (itR snR k zs) (itS snR snS k zs s1))) := fun W hW => by
            refine (takeSeen_any p B (itR snR k zs) (itS snR snS k zs s1) W hW.lc.rd hB (HXZ.out k) (HRZ.out k)).mono ?_
            rintro e w' ⟨rfl, r, g⟩
            exact ⟨rfl, hW.num r g⟩
          have HES : Hid (itL snR snO (k + 1) zs = itL snR snO k zs ++ [snO (itR snR k zs)]) := itL_succ _ _ _ _
          have HLK : Hid ((itL snR snO k zs ++ [snO (itR snR k zs)]).length = k + 1) := by show _ = _; rw [List.length_append, itL_len]; rfl
          have HLM2 : Hid ((itL snR snO k zs).length = k) := itL_len _ _ _ _
          obtain ⟨m, HM⟩ : ∃ m, Hid (snO (itR snR k zs) = m) := ⟨_, rfl⟩
          obtain ⟨r1, HR1⟩ : ∃ r1, Hid (snR (itR snR k zs) = r1) := ⟨_, rfl⟩
          obtain ⟨b1, HB1⟩ : ∃ b1, Hid (snS (itR snR k zs) (itS snR snS k zs s1) = b1) := ⟨_, rfl⟩
          rw [HM.out] at HTL HES HLK
          rw [HR1.out, HB1.out] at HTL
          have t0 := HT.out
          obtain ⟨ss, HSS⟩ : ∃ ss, Hid (itL snR snO k zs = ss) := ⟨_, rfl⟩
          rw [HSS.out] at HTL HES HLK HLN HLM2 t0
          have q0 := t0.c3
          have q1 := t0.drew.c3
          clear HT HM
          clear HRZ HXZ HEO HER HZ0 HZ1 hi0 hz0 hz1 hz2 hB HMS hlm
          go_upto_region 10 with fail
          go_region_law
            (first
              | (go_simp; go_at_call 78; (with_reducible refine (HTL.out _ (by first | assumption | exact Tt.drew (by assumption))).mono ?_); rintro e wn ⟨rfl, tn⟩; have qn := tn.c3; have qa := fun o => Tt.c3 (tn.alloc o); have qd := Tt.c3 tn.drew; try go_simp)
              | (refine step_sn (by rfl) _ _ 29 (by rfl) Try.underlying29 hj0 hy0 hy1 hy2 _ w p B z0 z1 _ _ ms ss m r1 b1 (by rfl) _ (by rfl) (by first | exact heap_alloc_new _ _ | exact (heap_alloc_new _ _ : (World.alloc _ _).drew.heap[_]? = _)) (by first | assumption | exact Tt.drew (by assumption) | exact Tt.alloc (by assumption) _ | exact Tt.drew (Tt.alloc (by assumption) _) | exact Tt.alloc (Tt.drew (by assumption)) _) HLN.out ?_; intro v5 w5 t5; obtain ⟨a5, cap5, rfl⟩ := t5.me.os.slice; obtain ⟨s5, f5⟩ := t5.c3; try go_simp))
          all_goals
            rw [HLK.out] at t5
            rw [HLM2.out]
            have T5 : Hid (Tt w (w5.setCell ⟨w.heap.size + 1, 3, none⟩ (.slice a5 (k + 1) cap5)) p B z0 z1 (.slice a n c) (.slice a5 (k + 1) cap5) ms (ss ++ [m]) r1 b1) := t5.set3
            clear t5 t0 q0 q1 tn qn qd qa
            go_wp2_with fail
            exact ⟨⟨k + 1, a5, cap5, by omega, by go_num, by rw [itR_succ, itS_succ, HES.out, HR1.out, HB1.out]; exact T5⟩, by simp [intOf]; omega⟩
        · obtain rfl : k = n2 := by omega
          have HQ := HT.out
          go_upto_region 12 with fail
          obtain ⟨ca0, fa0⟩ := blk_cell HQ.lc.a 0 (x := .int .i64 0) rfl
          have cb0 := (blk_cell HQ.lc.b 0 (x := .int .i64 z0) rfl).1
          obtain ⟨ca1, fa1⟩ := blk_cell HQ.lc.a 1 (x := .int .i64 0) rfl
          have cb1 := (blk_cell HQ.lc.b 1 (x := .int .i64 z1) rfl).1
          obtain ⟨ca2, fa2⟩ := blk_cell HQ.lc.a 2 (x := .slice none 0 0) rfl
          have cb2 := (blk_cell HQ.lc.b 2 (x := .slice a n c) rfl).1
          obtain ⟨ca3, fa3⟩ := blk_cell HQ.lc.a 3 (x := .slice none 0 0) rfl
          have cb3 := (blk_cell HQ.lc.b 3 (x := .slice a2 k c2) rfl).1
          have HFIN : Hid (Lc w ((((wr.setCell ⟨w.heap.size, 0, none⟩ (.int .i64 z0)).setCell ⟨w.heap.size, 1, none⟩ (.int .i64 z1)).setCell ⟨w.heap.size, 2, none⟩ (.slice a n c)).setCell ⟨w.heap.size, 3, none⟩ (.slice a2 k c2)) p B 31 #[.int .i64 z0, .int .i64 z1, .slice a n c, .slice a2 k c2] #[.int .i64 z0, .int .i64 z1, .slice a n c, .slice a2 k c2] (itR snR k zs) (itS snR snS k zs s1) ∧ Mem ((((wr.setCell ⟨w.heap.size, 0, none⟩ (.int .i64 z0)).setCell ⟨w.heap.size, 1, none⟩ (.int .i64 z1)).setCell ⟨w.heap.size, 2, none⟩ (.slice a n c)).setCell ⟨w.heap.size, 3, none⟩ (.slice a2 k c2)) (w.heap.size + 2) (.slice a n c) (.slice a2 k c2) ms (itL snR snO k zs)) :=
            ⟨HQ.lc.far0 0 _ |>.far0 1 _ |>.far0 2 _ |>.far0 3 _, HQ.me.kept fun g h2 _ => (blk_far (by omega) 3 _).trans ((blk_far (by omega) 2 _).trans ((blk_far (by omega) 1 _).trans (blk_far (by omega) 0 _)))⟩
          clear HQ HT
          go_wp2_with fail
          generalize ((((wr.setCell ⟨w.heap.size, 0, none⟩ (.int .i64 z0)).setCell ⟨w.heap.size, 1, none⟩ (.int .i64 z1)).setCell ⟨w.heap.size, 2, none⟩ (.slice a n c)).setCell ⟨w.heap.size, 3, none⟩ (.slice a2 k c2)) = wf at HFIN ⊢
          have d0 := (blk_cell HFIN.out.1.a 0 (x := .int .i64 z0) rfl).1
          have d1 := (blk_cell HFIN.out.1.a 1 (x := .int .i64 z1) rfl).1
          have d2 := (blk_cell HFIN.out.1.a 2 (x := .slice a n c) rfl).1
          have d3 := (blk_cell HFIN.out.1.a 3 (x := .slice a2 k c2) rfl).1
          refine bodyPost_ret (v := .agg #[.int .i64 z0, .int .i64 z1, .slice a n c, .slice a2 k c2]) (by simp [results, Try.results56, go_sem, d0, d1, d2, d3]) rfl ⟨.slice a n c, .slice a2 k c2, ms, ?_, ⟨?_, ?_⟩, ?_, HFIN.out.1.gr⟩
          · rw [HEO.out]; rfl
          · rw [HEO.out]; exact HMS.out
          · rw [HEO.out]
            have hm := HFIN.out.2
            exact ⟨hm.ol.mono (by omega), fun m h => (hm.ow m h).mono (by omega), hm.di, hm.os.mono (by omega)⟩
          · rw [HER.out.1, HER.out.2]; exact HFIN.out.1.rd
end Go.Proofs.Ytkjbdemhpnhagaa.Ur
