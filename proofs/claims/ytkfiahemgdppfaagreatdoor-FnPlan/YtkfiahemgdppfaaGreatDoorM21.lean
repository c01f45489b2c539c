/- Texts put together: Po, Dm, Ah, Gd, Gb. -/
import Derived.Test.YtkfiahemgdppfaaGreatDoorM20
import Derived.Test.YtkfiahemgdppfaaGreatDoorM10
import Derived.Test.YtkfiahemgdppfaaGreatDoorM2
import Derived.Test.YtkfiahemgdppfaaGreatDoorM12
import Derived.Test.YtkfiahemgdppfaaGreatDoorM3
import Derived.Test.YtkfiahemgdppfaaGreatDoorM6
import Derived.Test.YtkfiahemgdppfaaGreatDoorM17
/- The plan of a quorum: PlanOf of the program. -/
namespace Go.Proofs.YtkfiahemgdppfaaGreatDoor.Pl
open Go.RowKit Go.Proofs.YtkfiahemgdppfaaGreatDoor.Sl Go.Proofs.YtkfiahemgdppfaaGreatDoor.By Go.Proofs.YtkfiahemgdppfaaGreatDoor.Ap Go.Proofs.YtkfiahemgdppfaaGreatDoor.Gm Go.Proofs.YtkfiahemgdppfaaGreatDoor.Sh Go.Proofs.YtkfiahemgdppfaaGreatDoor.Vt Go.Proofs.YtkfiahemgdppfaaGreatDoor.Tm Go.Proofs.YtkfiahemgdppfaaGreatDoor.Wc
open Go.Proofs.YtkfiahemgdppfaaGreatDoor.Tl (OwnS)
open Go.Proofs.YtkfiahemgdppfaaGreatDoor.Qm (qOut inB within_any)
open Go.Proofs.YtkfiahemgdppfaaGreatDoor.Rg (RowG RowG.slice RowG.at lt_at mem_at blk_cell blk_set blk_far bel_new)

/-- What PlanOf answers. -/
noncomputable def plC (n view : Int) (ms : List Mg) : Int := if 4096 < ms.length then 2 else if fCode n = 0 ∧ inB view 1 20 = true then (if (ms.length : Int) = qOut n then (if caB n view ms then 0 else 12) else 19) else 4
noncomputable def plL (n view : Int) (ms : List Mg) : List ByteArray := if plC n view ms = 0 then planL (caL ms) else []
theorem plL_no {n view : Int} {ms : List Mg} {c : Int} (h : plC n view ms = c) (h0 : c ≠ 0) : plL n view ms = [] := by unfold plL; rw [h, if_neg h0]
theorem ownS_nil (w : World) (B : Nat) : OwnS w B (.slice none 0 0) [] := World.ownsRow_nil _ _ _ _
theorem ca_right {n view : Int} {ms : List Mg} (h : caB n view ms = true) : ∀ c ∈ caL ms, Right c := fun c hc => by
  unfold caB at h
  rw [Bool.and_eq_true, List.all_eq_true] at h
  unfold caL at hc
  obtain ⟨x, hx, hc⟩ := List.mem_flatMap.1 hc
  exact crts_right (h.2 x hx) c hc
theorem ca_len : ∀ {ms : List Mg} {n view : Int}, ms.all (cfB n view) = true → (caL ms).length ≤ 8 * ms.length
  | [], _, _, _ => Nat.le_refl _
  | x :: ms, n, view, h => by
    rw [List.all_cons, Bool.and_eq_true] at h
    have h1 := crts_len h.1
    have h2 := ca_len h.2
    unfold caL at h2 ⊢
    rw [List.flatMap_cons, List.length_append, List.length_cons]
    omega
set_option maxRecDepth 100000 in
set_option maxHeartbeats 1600000 in
theorem implPlanOf_any (n view : Int) (v : Value) (ms : List Mg) (w : World) (h : Row w v ms) (hl : ms.length ≤ 1048576) (hb : ∀ x ∈ ms, x.bd.size ≤ 1048576) (hK : KTab w) (hp : 0 < w.heap.size) :
    Calls Tryz.prog 7 #[.int .i64 n, .int .i64 view, v] w fun e w' => ∃ u, e = .returned (.tuple #[u, .int .i64 (plC n view ms)]) ∧ OwnS w' w.heap.size u (plL n view ms) ∧ Below w.heap.size w w' := by
  have GK : Hid (∀ W, Below w.heap.size w W → KTab W ∧ 0 < W.heap.size) := fun W hW => ⟨hK.below hW hp, Nat.lt_of_lt_of_le hp hW.size⟩
  have HCA := certsOfAll_any n view v ms w h hl hb hK hp
  have HQ := Qm.implQuorumOf_any n w
  have HW := fun W => Bo.with_any view 1 20 W
  obtain ⟨a, cap, rfl⟩ := RowG.slice h
  have HPL : Hid (plL n view ms = if plC n view ms = 0 then planL (caL ms) else []) := rfl
  clear h hK hp hb
  by_cases h4 : (4096 : Int) < (ms.length : Int)
  · have HC : Hid (plC n view ms = 2) := by show _ = _; unfold plC; rw [if_pos (by omega)]
    have HN := plL_no HC.out (by decide)
    clear HCA HQ HW
    go_enter Tryz.func7, Tryz.ntmps7
    go_wp2_with fail
    go_ret2
    exact ⟨_, ret_vi HC.out.symm, by rw [HN]; exact ownS_nil _ _, Below.refl _ _⟩
  have h4n : ¬ 4096 < ms.length := by omega
  by_cases hf : fCode n = 0
  · rw [hf] at HQ
    cases hw : inB view 1 20 with
    | false =>
      have HC : Hid (plC n view ms = 4) := by show _ = _; unfold plC; rw [if_neg h4n, if_neg (by rw [hw]; simp)]
      have HN := plL_no HC.out (by decide)
      have HW2 : Hid (∀ W, Calls Tryz.prog 19 #[.int .i64 view, .int .i64 1, .int .i64 20] W fun e w' => e = .returned (.bool false) ∧ W = w') := fun W => by have := HW W; have e : Rq.inB view 1 20 = false := hw; rw [e] at this; exact this
      generalize qOut n = q at HQ
      clear HCA hw HW hf
      go_enter Tryz.func7, Tryz.ntmps7
      go_wp2_with fail
      refine HQ.mono ?_
      rintro e w1 ⟨rfl, rfl⟩
      go_wp2_with fail
      refine (HW2.out _).mono ?_
      rintro e w1 ⟨rfl, rfl⟩
      go_wp2_with fail
      go_ret2
      exact ⟨_, ret_vi HC.out.symm, by rw [HN]; exact ownS_nil _ _, Below.refl _ _⟩
    | true =>
      have HW2 : Hid (∀ W, Calls Tryz.prog 19 #[.int .i64 view, .int .i64 1, .int .i64 20] W fun e w' => e = .returned (.bool true) ∧ W = w') := fun W => by have := HW W; have e : Rq.inB view 1 20 = true := hw; rw [e] at this; exact this
      by_cases hlq : (ms.length : Int) = qOut n
      · have hlq' : ((ms.length : Int) != qOut n) = false := by simp [hlq]
        have HC0 : Hid (plC n view ms = if caB n view ms then 0 else 12) := by show _ = _; unfold plC; rw [if_neg h4n, if_pos ⟨hf, hw⟩, if_pos hlq]
        have HRT : Hid (caB n view ms = true → ∀ c ∈ caL ms, Right c) := ca_right
        have HLN : Hid (caB n view ms = true → (caL ms).length ≤ 1000) := fun hc => by
          unfold caB at hc
          rw [Bool.and_eq_true] at hc
          have h1 := ca_len hc.2
          have h2 := (q_pos hf).2
          omega
        generalize qOut n = q at HQ hlq'
        obtain ⟨o, HO⟩ : ∃ o, Hid (caB n view ms = o) := ⟨_, rfl⟩
        rw [HO.out] at HCA HC0 HRT HLN
        have HCA2 : Hid (Calls Tryz.prog 20 #[.int .i64 n, .int .i64 view, .slice a ms.length cap] w fun e w' => ∃ u, e = .returned (.tuple #[u, .bool o]) ∧ (o = true → ∃ ps, ps.map (·.1) = caL ms ∧ RdC w' w.heap.size u ps) ∧ Below w.heap.size w w') := HCA
        clear HCA hw HW hf hlq HO
        cases o with
        | false =>
          have HC : Hid (plC n view ms = 12) := HC0.out
          have HN := plL_no HC.out (by decide)
          go_enter Tryz.func7, Tryz.ntmps7
          go_wp2_with fail
          refine HQ.mono ?_
          rintro e w1 ⟨rfl, rfl⟩
          go_wp2_with fail
          refine (HW2.out _).mono ?_
          rintro e w1 ⟨rfl, rfl⟩
          go_wp2_with fail
          refine HCA2.out.mono ?_
          rintro e w1 ⟨u, rfl, -, b1⟩
          have B1 : Hid (Below w.heap.size w w1) := b1
          clear b1
          go_wp2_with fail
          go_ret2
          exact ⟨_, ret_vi HC.out.symm, by rw [HN]; exact ownS_nil _ _, B1.out⟩
        | true =>
          have HC : Hid (plC n view ms = 0) := HC0.out
          have HN : Hid (plL n view ms = planL (caL ms)) := by show _ = _; rw [HPL.out, HC.out]; rfl
          go_enter Tryz.func7, Tryz.ntmps7
          go_wp2_with fail
          refine HQ.mono ?_
          rintro e w1 ⟨rfl, rfl⟩
          go_wp2_with fail
          refine (HW2.out _).mono ?_
          rintro e w1 ⟨rfl, rfl⟩
          go_wp2_with fail
          refine HCA2.out.mono ?_
          rintro e w1 ⟨u, rfl, o1, b1⟩
          obtain ⟨ps, m1, r1⟩ := o1 trivial
          have HPF : Hid (Calls Tryz.prog 21 #[u] w1 fun e w' => ∃ u, e = .returned u ∧ OwnS w' w1.heap.size u (plL n view ms) ∧ Below w1.heap.size w1 w') := by
            have g := GK.out _ b1
            have := planFrom_any u ps w.heap.size w1 r1 (fun p hp => HRT.out trivial _ (by rw [← m1]; exact List.mem_map_of_mem hp)) (by have h1 := HLN.out trivial; rw [← m1, List.length_map] at h1; exact h1) g.1 g.2
            rw [m1, ← HN.out] at this
            exact this
          have B1 : Hid (Below w.heap.size w w1) := b1
          clear o1 m1 r1 b1
          go_wp2_with fail
          refine HPF.out.mono ?_
          rintro e w2 ⟨u2, rfl, o2, b2⟩
          have R2 : Hid (OwnS w2 w.heap.size u2 (plL n view ms) ∧ Below w.heap.size w w2) := ⟨ownS_mono o2 B1.out.size, B1.out.trans (b2.mono B1.out.size)⟩
          clear o2 b2
          go_wp2_with fail
          go_ret2
          exact ⟨_, ret_vi HC.out.symm, R2.out.1, R2.out.2⟩
      · have hlq' : ((ms.length : Int) != qOut n) = true := by simp [hlq]
        have HC : Hid (plC n view ms = 19) := by show _ = _; unfold plC; rw [if_neg h4n, if_pos ⟨hf, hw⟩, if_neg hlq]
        have HN := plL_no HC.out (by decide)
        generalize qOut n = q at HQ hlq'
        clear HCA hw HW hf hlq
        go_enter Tryz.func7, Tryz.ntmps7
        go_wp2_with fail
        refine HQ.mono ?_
        rintro e w1 ⟨rfl, rfl⟩
        go_wp2_with fail
        refine (HW2.out _).mono ?_
        rintro e w1 ⟨rfl, rfl⟩
        go_wp2_with fail
        go_ret2
        exact ⟨_, ret_vi HC.out.symm, by rw [HN]; exact ownS_nil _ _, Below.refl _ _⟩
  · have HC : Hid (plC n view ms = 4) := by show _ = _; unfold plC; rw [if_neg h4n, if_neg (fun h => hf h.1)]
    have HN := plL_no HC.out (by decide)
    have h4' := f_four hf
    rw [h4'] at HQ
    generalize qOut n = q at HQ
    clear HCA HW hf h4'
    go_enter Tryz.func7, Tryz.ntmps7
    go_wp2_with fail
    refine HQ.mono ?_
    rintro e w1 ⟨rfl, rfl⟩
    go_wp2_with fail
    go_ret2
    exact ⟨_, ret_vi HC.out.symm, by rw [HN]; exact ownS_nil _ _, Below.refl _ _⟩
end Go.Proofs.YtkfiahemgdppfaaGreatDoor.Pl

/- Three drawn view changes: what they are planned to. -/
namespace Go.Proofs.YtkfiahemgdppfaaGreatDoor.Dc
open Go.RowKit Go.Proofs.YtkfiahemgdppfaaGreatDoor.Sl Go.Proofs.YtkfiahemgdppfaaGreatDoor.By Go.Proofs.YtkfiahemgdppfaaGreatDoor.Ap Go.Proofs.YtkfiahemgdppfaaGreatDoor.Gm Go.Proofs.YtkfiahemgdppfaaGreatDoor.Sh
open Go.Proofs.YtkfiahemgdppfaaGreatDoor.Vt (sg isV Rise qvB qv_iff bOf_iff)
open Go.Proofs.YtkfiahemgdppfaaGreatDoor.Tm (fCode)
open Go.Proofs.YtkfiahemgdppfaaGreatDoor.Qm (qOut)
open Go.Proofs.YtkfiahemgdppfaaGreatDoor.Wc (Ct hd crts vcC vcL)
open Go.Proofs.YtkfiahemgdppfaaGreatDoor.Pl (caB caL plC plL planL)
open Go.Proofs.YtkfiahemgdppfaaGreatDoor.Rg (lt_at mem_at)

structure Lst (view sk j : Nat) (L : List Mg) : Prop where
  all : ∀ x ∈ L, ∃ (i : Nat) (ds : List Dn), x = dMg view i ds ∧ Dl 4 view 4 ds ∧ i < j ∧ i < 4
  rise : Rise L L.length
  len : L.length + (if sk < j then 1 else 0) = j
theorem Lst.nil (view sk : Nat) : Lst view sk 0 [] := ⟨fun x h => by simp at h, fun j x y h => by simp at h, by simp⟩
theorem Lst.skip {view j : Nat} {L : List Mg} (h : Lst view j j L) : Lst view j (j + 1) L := by
  refine ⟨fun x hx => ?_, h.rise, ?_⟩
  · obtain ⟨i, ds, h1, h2, h3, h4⟩ := h.all x hx; exact ⟨i, ds, h1, h2, by omega, h4⟩
  · have := h.len; rw [if_neg (by omega)] at this; rw [if_pos (by omega)]; omega
theorem Lst.snoc {view sk j : Nat} {L : List Mg} {ds : List Dn} (h : Lst view sk j L) (hj : j < 4) (hs : j ≠ sk) (hd : Dl 4 view 4 ds) : Lst view sk (j + 1) (L ++ [dMg view j ds]) := by
  refine ⟨fun x hx => ?_, fun k x y hk hx hy => ?_, ?_⟩
  · rcases List.mem_append.1 hx with hx | hx
    · obtain ⟨i, ds, h1, h2, h3, h4⟩ := h.all x hx; exact ⟨i, ds, h1, h2, by omega, h4⟩
    · simp at hx; exact ⟨j, ds, hx, hd, by omega, hj⟩
  · rw [List.length_append] at hk
    simp at hk
    by_cases e : k + 1 < L.length
    · rw [List.getElem?_append_left (by omega)] at hx
      rw [List.getElem?_append_left e] at hy
      exact h.rise k x y e hx hy
    · have ek : k + 1 = L.length := by omega
      rw [List.getElem?_append_left (by omega)] at hx
      rw [List.getElem?_append_right (by omega), ek, Nat.sub_self] at hy
      simp at hy
      obtain ⟨i, ds', e1, _, h3, _⟩ := h.all x (mem_at hx)
      rw [e1, ← hy]
      show (i : Int) < (j : Int)
      omega
  · have := h.len
    rw [List.length_append]
    simp only [List.length_cons, List.length_nil]
    by_cases e : sk < j
    · rw [if_pos e] at this; rw [if_pos (by omega)]; omega
    · rw [if_neg e] at this; rw [if_neg (by omega)]; omega
theorem Lst.ok {view sk : Nat} {L : List Mg} (h : Lst view sk 4 L) (hs : sk < 4) (hv : 1 ≤ view ∧ view ≤ 20) :
    L.length = 3 ∧ plC 4 view L = 0 ∧ plL 4 view L = planL (caL L) ∧ (∀ x ∈ L, vcC 4 x = 0 ∧ vcL 4 x = crts x ∧ x.bd.size ≤ 1507 ∧ (crts x).length ≤ 3) ∧ ∀ c ∈ caL L, c.ms[0]? = some (hd c) ∧ (1 ≤ (hd c).sq ∧ (hd c).sq ≤ 8) ∧ (0 ≤ (hd c).vw ∧ (hd c).vw ≤ 20) ∧ c.ms.length ≤ 5 := by
  have hl : L.length = 3 := by have := h.len; rw [if_pos hs] at this; omega
  have hf : fCode 4 = 0 := rfl
  have hv1 : (1 : Int) ≤ (view : Int) ∧ (view : Int) ≤ 20 := ⟨by omega, by omega⟩
  have hok : ∀ x ∈ L, Wc.cfB 4 view x = true ∧ x.vw = view ∧ x.bd.size ≤ 1507 ∧ ∃ ds : List Dn, crts x = ds.map Dn.ct ∧ Dl 4 view 4 ds := fun x hx => by
    obtain ⟨i, ds, rfl, h2, _, h4⟩ := h.all x hx
    obtain ⟨c1, c2⟩ := change_ok hf hv1 (Int.le_refl _) (by omega) (by omega) h2 (i := i)
    exact ⟨c1, rfl, (change_sz hf hv1.2 (Int.le_refl _) h2).2.2.2.2, ds, c2, h2⟩
  have hq : qvB 4 L = true := qv_iff.2 ⟨hf, by rw [hl]; rfl, fun x hx => by
    have h1 := bOf_iff.1 (hok x hx).1
    unfold isV
    rw [h1.1, h1.2.1]; rfl, h.rise⟩
  have hca : caB 4 view L = true := by
    unfold caB
    rw [hq, Bool.true_and, List.all_eq_true]
    exact fun x hx => (hok x hx).1
  have hpc : plC 4 view L = 0 := by
    unfold plC
    rw [if_neg (by omega), if_pos ⟨hf, decide_eq_true hv1⟩, if_pos (by rw [hl]; rfl), hca]; rfl
  refine ⟨hl, hpc, by unfold plL; rw [if_pos hpc], fun x hx => ?_, fun c hc => ?_⟩
  · obtain ⟨c1, c2, c3, ds, c4, c5⟩ := hok x hx
    have c6 : (crts x).length ≤ 3 := by rw [c4, List.length_map]; have := c5.len; omega
    have hvc : vcC 4 x = 0 := by unfold vcC; rw [if_pos hf, c2, c1]; rfl
    exact ⟨hvc, by unfold vcL; rw [if_pos hvc], c3, c6⟩
  · unfold caL at hc
    obtain ⟨x, hx, hc⟩ := List.mem_flatMap.1 hc
    obtain ⟨_, _, _, ds, e, hdl⟩ := hok x hx
    rw [e] at hc
    obtain ⟨d, hdm, rfl⟩ := List.mem_map.1 hc
    have ho := (hdl.all d hdm).1
    obtain ⟨_, _, o3, o4, _⟩ := one_ok hf hv1.2 ho
    have hq3 : ((d.ms.length : Nat) : Int) = 3 := ho.len
    obtain ⟨y, hy⟩ := Rg.get_at (xs := d.ms) (k := 0) (by omega)
    have hh : Wc.hd d.ct = y := by
      show d.ms.getD 0 default = y
      rw [List.getD_eq_getElem?_getD, hy]; rfl
    refine ⟨?_, ⟨by rw [o3]; exact ho.sq.1, by rw [o3]; have := ho.sq.2; omega⟩, ⟨by rw [o4]; exact ho.vw.1, by rw [o4]; have := ho.vw.2; omega⟩, by show d.ms.length ≤ 5; omega⟩
    show d.ms[0]? = some (Wc.hd d.ct)
    rw [hh]; exact hy
end Go.Proofs.YtkfiahemgdppfaaGreatDoor.Dc

/- Readings that are drawn. -/
namespace Go.Proofs.YtkfiahemgdppfaaGreatDoor.Ag
open Go.RowKit Go.Proofs.YtkfiahemgdppfaaGreatDoor.Sl Go.Proofs.YtkfiahemgdppfaaGreatDoor.By Go.Proofs.YtkfiahemgdppfaaGreatDoor.Ap Go.Proofs.YtkfiahemgdppfaaGreatDoor.Rr Go.Proofs.YtkfiahemgdppfaaGreatDoor.Gn Go.Proofs.YtkfiahemgdppfaaGreatDoor.Sh Go.Proofs.YtkfiahemgdppfaaGreatDoor.Mr Go.Proofs.YtkfiahemgdppfaaGreatDoor.Rw Go.Proofs.YtkfiahemgdppfaaGreatDoor.Rs Go.Proofs.YtkfiahemgdppfaaGreatDoor.Rm Go.Proofs.YtkfiahemgdppfaaGreatDoor.Cn Go.Proofs.YtkfiahemgdppfaaGreatDoor.Md Go.Proofs.YtkfiahemgdppfaaGreatDoor.Is
open Go.Proofs.YtkfiahemgdppfaaGreatDoor.Tkb (OwnR info_r list_rd OwnR.made OwnR.below OwnR.lt own_kept OwnR.mono OwnR.alloc cl fm_at)
open Go.Proofs.YtkfiahemgdppfaaGreatDoor.Rg (bel_new lt_at)

/-! draws -/
theorem quo_n {n : Int} (h : n = 1 ∨ n = 4 ∨ n = 7) : ∃ f : Nat, (n - 1).tdiv 3 = (f : Int) ∧ n = 3 * (f : Int) + 1 ∧ f ≤ 2 := by
  rcases h with rfl | rfl | rfl
  · exact ⟨0, by decide, by decide, by decide⟩
  · exact ⟨1, by decide, by decide, by decide⟩
  · exact ⟨2, by decide, by decide, by decide⟩
set_option maxRecDepth 100000 in
set_option maxHeartbeats 1600000 in
theorem readings_any (n f p B K : Nat) (xs : List Int) (w : World) (h : Gn.Src B w p xs K) (hB : B ≤ p) (hK : K ≤ 1000000) (hx : xs.length ≤ 1048600) (hn : n = 3 * f + 1) (hf : f ≤ 2) :
    Calls Tryz.prog 111 #[.pointer (some ⟨p, 0, none⟩), .int .i64 n] w fun e w' => ∃ v us, e = .returned v ∧ OwnR w' w.heap.size v us ∧ us.length = 2 * f + 1 ∧ Fine n n (us.map cv) ∧ Gn.Src B w' p xs (K + 9) ∧ w.grownBy w' (some p) := by
  have hp := h.lt
  have hq : ((n : Int) - 1).tdiv 3 = (f : Int) := by subst hn; rw [show (((3 * f + 1 : Nat)) : Int) - 1 = 3 * (f : Int) by omega]; rw [Int.mul_tdiv_cancel_left _ (by decide)]
  obtain ⟨i0, hi0, hz0, hz1, hz2⟩ := info_parts info_r
  have hn7 : n ≤ 7 := by omega
  have hn1 : 1 ≤ n := by omega
  have HN : Hid (∀ _ : Unit, n = 3 * f + 1) := fun _ => hn
  clear hn
  have S0 : Hid (Gn.Src B (w.alloc (.cells #[] 157)) p xs K) := h.alloc hB _
  have G0 : Hid (w.grownBy (w.alloc (.cells #[] 157)) (some p)) := grown_alloc (grown_refl _ _) _
  have O0 : Hid (OwnR (w.alloc (.cells #[] 157)) w.heap.size (.slice (some ⟨w.heap.size, 0, none⟩) 0 0) []) := OwnR.made w _ (Nat.le_refl _)
  clear h
  go_enter Tryz.func111, Tryz.ntmps111
  go_wp2_with fail
  refine (next_any n p B K xs _ S0.out hB (by omega) hx (by omega) (by omega)).mono ?_
  rintro e w1 ⟨sk, rfl, hsk, s1, g1⟩
  have S1 : Hid (Gn.Src B w1 p xs (K + 1)) := s1
  have G1 : Hid (w.grownBy w1 (some p)) := grown_trans G0.out g1
  have O1 : Hid (OwnR w1 w.heap.size (.slice (some ⟨w.heap.size, 0, none⟩) 0 0) []) := own_kept O0.out g1 hp
  clear s1 g1 S0 G0 O0
  go_wp2_with fail
  go_loopw [6, 8] (fun out i wr => ∃ (j : Nat) (us : List Gr.Rd), i = .int .i64 (j : Int) ∧ Hid (OwnR wr w.heap.size out us) ∧ Hid (us.length + (if sk < j ∧ 1 < n then 1 else 0) = j ∧ us.length ≤ 2 * f + 1) ∧ Hid (Fine n j (us.map cv)) ∧ Hid (Gn.Src B wr p xs (K + 1 + us.length)) ∧ Hid (w.grownBy wr (some p))) (fun _ i _ => 8 - (intOf i).toNat)
  case atStart => exact ⟨0, [], rfl, O1, ⟨by simp, by simp⟩, Fine.nil _ _, S1, G1⟩
  case round =>
    clear S1 G1 O1
    obtain ⟨j, us, rfl, HO, HC, HF, HS, HG⟩ := hrel
    obtain ⟨ao, co, rfl⟩ := Rg.RowG.slice (Tkb.OwnR.row HO.out)
    have hc1 := HC.out.1
    have hc2 := HC.out.2
    by_cases hlt : us.length < 2 * f + 1
    · have hlt' : (us.length : Int) < 2 * (f : Int) + 1 := by omega
      have hj6 : j ≤ 6 ∧ (j < n ∨ j = sk) := by
        have hn := HN.out ()
        by_cases hs : sk < j ∧ 1 < n
        · rw [if_pos hs] at hc1; omega
        · rw [if_neg hs] at hc1; omega
      by_cases hsk2 : j = sk ∧ 1 < n
      · have q1 : ((j : Int) == (sk : Int)) = true := by simp; omega
        have q2 : (1 : Int) < (n : Int) := by omega
        have hj6' := hj6.1
        have HC2 : Hid (us.length + (if sk < j + 1 ∧ 1 < n then 1 else 0) = j + 1 ∧ us.length ≤ 2 * f + 1) := by
          refine ⟨?_, hc2⟩
          rw [if_neg (by omega)] at hc1
          rw [if_pos (by omega)]
          omega
        have HF2 : Hid (Fine n ((j : Int) + 1) (us.map cv)) := HF.out.le (by omega)
        clear hc1 hc2 HC HF hsk2 hj6
        go_wp2_with fail
        exact ⟨⟨j + 1, us, by go_num, HO, HC2, by show Fine _ _ _; rw [show ((j + 1 : Nat) : Int) = (j : Int) + 1 by omega]; exact HF2.out, HS, HG⟩, by simp [intOf]; omega⟩
      · have hjn : j < n := by
          have hn := HN.out ()
          by_cases hs : sk < j ∧ 1 < n
          · rw [if_pos hs] at hc1; omega
          · rw [if_neg hs] at hc1; omega
        have q0 : (((j : Int) == (sk : Int)) && decide ((1 : Int) < (n : Int))) = false := by
          rw [Bool.and_eq_false_iff]
          by_cases e : j = sk
          · right; simp; omega
          · left; simp; omega
        have HC2 : Hid (∀ z : Gr.Rd, (us ++ [z]).length + (if sk < j + 1 ∧ 1 < n then 1 else 0) = j + 1 ∧ (us ++ [z]).length ≤ 2 * f + 1) := fun z => by
          rw [List.length_append]
          simp only [List.length_cons, List.length_nil]
          by_cases hs : sk < j ∧ 1 < n
          · rw [if_pos hs] at hc1; rw [if_pos (by omega)]; omega
          · rw [if_neg hs] at hc1; rw [if_neg (by omega)]; omega
        have HJ : Hid (∀ _ : Unit, j ≤ 6 ∧ j < n) := fun _ => ⟨hj6.1, hjn⟩
        have hul : us.length ≤ 1000000 := by omega
        have hKu : K + 1 + us.length ≤ 1000000000 := by omega
        clear hc1 hc2 HC
        by_cases e : j = sk
        · have q2 : ¬ (1 : Int) < (n : Int) := by omega
          subst e
          have q1 : ((j : Int) == (j : Int)) = true := by simp
          clear hsk2 hjn q0 hlt
          go_wp2_with fail
          refine (next_any 100 p B (K + 1 + us.length) xs _ HS.out hB hKu hx (by decide) (by decide)).mono ?_
          rintro e w2 ⟨x, rfl, hxx, s2, g2⟩
          have S2 : Hid (Gn.Src B w2 p xs (K + 1 + us.length + 1)) := s2
          have G2 : Hid (w.grownBy w2 (some p)) := grown_trans HG.out g2
          have O2 : Hid (OwnR w2 w.heap.size (.slice ao us.length co) us) := own_kept HO.out g2 hp
          have HFS : Hid (Fine n ((j : Int) + 1) ((us ++ [(⟨(j : Int), (x : Int), rmk j x⟩ : Gr.Rd)]).map cv)) := by
            show Fine _ _ _
            rw [List.map_append]
            exact HF.out.snoc (x := (x : Int)) (HJ.out ()).1 (by have := (HJ.out ()).2; omega) ⟨by omega, by omega⟩
          have HMK := l04Reading_any j (x : Int) w2 (by have := (HJ.out ()).1; omega)
          obtain ⟨mk, HM⟩ : ∃ mk, Hid (rmk j (x : Int) = mk) := ⟨_, rfl⟩
          rw [HM.out] at HMK HFS
          clear s2 g2 HO HF HS HG
          go_wp2_with fail
          refine HMK.mono ?_
          rintro e w3 ⟨rfl, b3⟩
          have S3 : Hid (Gn.Src B w3 p xs (K + 1 + us.length + 1)) := S2.out.kept (b3.block p S2.out.lt) (fun k hk => b3.block k (by have := S2.out.lt; omega))
          have G3 : Hid (w.grownBy w3 (some p)) := grown_trans G2.out ⟨b3.os, b3.tape, b3.output, b3.size, fun k hk _ => b3.block k hk⟩
          have O3 : OwnR w3 w.heap.size (.slice ao us.length co) us := O2.out.below b3
          have hw3 : w.heap.size ≤ w3.heap.size := G3.out.size
          clear b3 S2 G2 O2 HMK
          go_wp2_with (at_builtin; go_must (refine list_rd (by rfl) _ _ 119 (by rfl) i0 Tryz.underlying119 hi0 hz0 hz1 hz2 w.heap.size w3 w3 _ us ⟨(j : Int), (x : Int), mk⟩ (by rfl) O3 (Below.refl _ _) hw3 _ (by rfl) rfl hul ?_; intro v4 w4 o4 b4 k4))
          have S4 : Hid (Gn.Src B w4 p xs (K + 1 + (us ++ [(⟨(j : Int), (x : Int), mk⟩ : Gr.Rd)]).length)) := by
            rw [List.length_append]
            exact S3.out.kept (b4.block p hp) (fun k hk => b4.block k (by omega))
          have G4 : Hid (w.grownBy w4 (some p)) := ⟨b4.os.trans G3.out.os, b4.tape.trans G3.out.tape, b4.output.trans G3.out.output, Nat.le_trans G3.out.size b4.size, fun k hk hne => (b4.block k hk).trans (G3.out.block k hk hne)⟩
          exact ⟨⟨j + 1, _, by go_num, o4, HC2.out _, by show Fine _ _ _; rw [show ((j + 1 : Nat) : Int) = (j : Int) + 1 by omega]; exact HFS.out, S4, G4⟩, by have := (HJ.out ()).1; simp [intOf]; omega⟩
        · have q1 : ((j : Int) == (sk : Int)) = false := by simp; omega
          clear hsk2 hjn q0 hlt e
          go_wp2_with fail
          refine (next_any 100 p B (K + 1 + us.length) xs _ HS.out hB hKu hx (by decide) (by decide)).mono ?_
          rintro e w2 ⟨x, rfl, hxx, s2, g2⟩
          have S2 : Hid (Gn.Src B w2 p xs (K + 1 + us.length + 1)) := s2
          have G2 : Hid (w.grownBy w2 (some p)) := grown_trans HG.out g2
          have O2 : Hid (OwnR w2 w.heap.size (.slice ao us.length co) us) := own_kept HO.out g2 hp
          have HFS : Hid (Fine n ((j : Int) + 1) ((us ++ [(⟨(j : Int), (x : Int), rmk j x⟩ : Gr.Rd)]).map cv)) := by
            show Fine _ _ _
            rw [List.map_append]
            exact HF.out.snoc (x := (x : Int)) (HJ.out ()).1 (by have := (HJ.out ()).2; omega) ⟨by omega, by omega⟩
          have HMK := l04Reading_any j (x : Int) w2 (by have := (HJ.out ()).1; omega)
          obtain ⟨mk, HM⟩ : ∃ mk, Hid (rmk j (x : Int) = mk) := ⟨_, rfl⟩
          rw [HM.out] at HMK HFS
          clear s2 g2 HO HF HS HG
          go_wp2_with fail
          refine HMK.mono ?_
          rintro e w3 ⟨rfl, b3⟩
          have S3 : Hid (Gn.Src B w3 p xs (K + 1 + us.length + 1)) := S2.out.kept (b3.block p S2.out.lt) (fun k hk => b3.block k (by have := S2.out.lt; omega))
          have G3 : Hid (w.grownBy w3 (some p)) := grown_trans G2.out ⟨b3.os, b3.tape, b3.output, b3.size, fun k hk _ => b3.block k hk⟩
          have O3 : OwnR w3 w.heap.size (.slice ao us.length co) us := O2.out.below b3
          have hw3 : w.heap.size ≤ w3.heap.size := G3.out.size
          clear b3 S2 G2 O2 HMK
          go_wp2_with (at_builtin; go_must (refine list_rd (by rfl) _ _ 119 (by rfl) i0 Tryz.underlying119 hi0 hz0 hz1 hz2 w.heap.size w3 w3 _ us ⟨(j : Int), (x : Int), mk⟩ (by rfl) O3 (Below.refl _ _) hw3 _ (by rfl) rfl hul ?_; intro v4 w4 o4 b4 k4))
          have S4 : Hid (Gn.Src B w4 p xs (K + 1 + (us ++ [(⟨(j : Int), (x : Int), mk⟩ : Gr.Rd)]).length)) := by
            rw [List.length_append]
            exact S3.out.kept (b4.block p hp) (fun k hk => b4.block k (by omega))
          have G4 : Hid (w.grownBy w4 (some p)) := ⟨b4.os.trans G3.out.os, b4.tape.trans G3.out.tape, b4.output.trans G3.out.output, Nat.le_trans G3.out.size b4.size, fun k hk hne => (b4.block k hk).trans (G3.out.block k hk hne)⟩
          exact ⟨⟨j + 1, _, by go_num, o4, HC2.out _, by show Fine _ _ _; rw [show ((j + 1 : Nat) : Int) = (j : Int) + 1 by omega]; exact HFS.out, S4, G4⟩, by have := (HJ.out ()).1; simp [intOf]; omega⟩
    · have hlt' : ¬ (us.length : Int) < 2 * (f : Int) + 1 := by omega
      have HL : Hid (us.length = 2 * f + 1) := by show _ = _; omega
      have HFN : Hid (Fine n n (us.map cv)) := HF.out.le (by
        have hn := HN.out ()
        by_cases hs : sk < j ∧ 1 < n
        · rw [if_pos hs] at hc1; omega
        · rw [if_neg hs] at hc1; omega)
      have HSE : Hid (Gn.Src B wr p xs (K + 9)) := by
        obtain ⟨v, a, s, q1, q2, q3, q4⟩ := HS.out
        exact ⟨v, a, s, q1, q2, by omega, q4⟩
      clear hc1 hc2
      go_wp2_with fail
      go_ret
      exact ⟨_, rfl, us, HO.out, HL.out, HFN.out, HSE.out, HG.out⟩
end Go.Proofs.YtkfiahemgdppfaaGreatDoor.Ag

/- Requests that the source draws. -/
namespace Go.Proofs.YtkfiahemgdppfaaGreatDoor.Gn
open Go.RowKit Go.Proofs.YtkfiahemgdppfaaGreatDoor.Sl Go.Proofs.YtkfiahemgdppfaaGreatDoor.By Go.Proofs.YtkfiahemgdppfaaGreatDoor.Ap Go.Proofs.YtkfiahemgdppfaaGreatDoor.Rq Go.Proofs.YtkfiahemgdppfaaGreatDoor.Rr Go.Proofs.YtkfiahemgdppfaaGreatDoor.Ty

theorem Src.set {B p b K : Nat} {w : World} {xs : List Int} (h : Src B w p xs K) (hb : p ≠ b) (hB : B ≤ b) (i : Nat) (x : Value) : Src B (w.setCell ⟨b, i, none⟩ x) p xs K :=
  h.kept (blk_far hb i x) (fun k hk => blk_far (by omega) i x)
theorem req_ok {c st k l : Int} {n : ByteArray} (h1 : inB c 0 255 = true) (h2 : inB st 1 65535 = true) (h3 : leB k l = true) (h4 : opB n = true) : reqB c st k l n = true := by
  unfold reqB; rw [h1, h2, h3, h4]; rfl
theorem Src.le {B p K K' : Nat} {w : World} {xs : List Int} (h : Src B w p xs K) (hk : K ≤ K') : Src B w p xs K' := by
  obtain ⟨v, a, s, q1, q2, q3, q4⟩ := h
  exact ⟨v, a, s, q1, q2, by omega, q4⟩
set_option maxHeartbeats 400000 in
theorem chance_any (n p B K : Nat) (xs : List Int) (w : World) (h : Src B w p xs K) (hB : B ≤ p) (hK : K ≤ 1000000000) (hx : xs.length ≤ 1048600) (hn : 0 < n) (hn2 : n ≤ 256) :
    Calls Tryz.prog 50 #[.pointer (some ⟨p, 0, none⟩), .int .i64 n] w fun e w' => ∃ b : Bool, e = .returned (.bool b) ∧ Src B w' p xs (K + 1) ∧ w.grownBy w' (some p) := by
  have hn3 : (n : Int) ≤ 256 := by omega
  go_enter Tryz.func50, Tryz.ntmps50
  go_wp2_with fail
  refine (next_any n p B K xs _ h hB hK hx hn hn2).mono ?_
  rintro e w1 ⟨r, rfl, hr, s1, g1⟩
  have S1 : Hid (Src B w1 p xs (K + 1)) := s1
  clear s1 h
  go_wp2_with fail
  go_ret
  exact ⟨_, rfl, S1.out, g1⟩
def lk3 : List ByteArray := [⟨#[97]⟩, ⟨#[98]⟩, ⟨#[108, 111, 99, 107]⟩]
theorem lk3_ok (r : Nat) (h : r < 3) : opB (tnth lk3 r) = true := by
  match r, h with
  | 0, _ => decide
  | 1, _ => decide
  | 2, _ => decide
set_option maxRecDepth 100000 in
set_option maxHeartbeats 1600000 in
theorem request_any (p B K : Nat) (xs : List Int) (w : World) (h : Src B w p xs K) (hB : B ≤ p) (hK : K ≤ 1000000) (hx : xs.length ≤ 1048600) :
    Calls Tryz.prog 110 #[.pointer (some ⟨p, 0, none⟩)] w fun e w' => ∃ (c st k l : Int) (n : ByteArray), e = .returned (.agg #[.int .i64 c, .int .i64 st, .int .i64 k, .int .i64 l, .string n]) ∧ reqB c st k l n = true ∧ Src B w' p xs (K + 5) ∧ w.grownBy w' (some p) := by
  have hp := h.lt
  have S0 : Hid (Src B (w.alloc (.cells zreq 118)) p xs K) := h.alloc hB _
  have G0 : Hid (w.grownBy (w.alloc (.cells zreq 118)) (some p)) := grown_alloc (grown_refl _ _) _
  have A0 : Hid ((w.alloc (.cells zreq 118)).heap[w.heap.size]? = some (.cells zreq 118 (0, 0))) := blk_new _ _ _
  clear h
  go_enter Tryz.func110, Tryz.ntmps110
  go_wp2_with fail
  refine (next_any 3 p B K xs _ S0.out hB (by omega) hx (by decide) (by decide)).mono ?_
  rintro e w1 ⟨c, rfl, hc, s1, g1⟩
  have S1 : Hid (Src B w1 p xs (K + 1)) := s1
  have G1 : Hid (w.grownBy w1 (some p)) := grown_trans G0.out g1
  have A1 : Hid (w1.heap[w.heap.size]? = some (.cells zreq 118 (0, 0))) := blk_kept A0.out g1 (by omega)
  clear s1 g1 S0 G0 A0
  go_wp2_with fail
  refine (next_any 5 p B (K + 1) xs _ S1.out hB (by omega) hx (by decide) (by decide)).mono ?_
  rintro e w2 ⟨st, rfl, hst, s2, g2⟩
  have S2 : Hid (Src B w2 p xs (K + 2)) := s2
  have G2 : Hid (w.grownBy w2 (some p)) := grown_trans G1.out g2
  have A2 : Hid (w2.heap[w.heap.size]? = some (.cells zreq 118 (0, 0))) := blk_kept A1.out g2 (by omega)
  clear s2 g2 S1 G1 A1
  go_wp2_with fail
  refine (next_any 4 p B (K + 2) xs _ S2.out hB (by omega) hx (by decide) (by decide)).mono ?_
  rintro e w3 ⟨k, rfl, hk, s3, g3⟩
  have S3 : Hid (Src B (w3.alloc (.cells #[.string ⟨#[97]⟩, .string ⟨#[98]⟩, .string ⟨#[108, 111, 99, 107]⟩] 9)) p xs (K + 3)) := s3.alloc hB _
  have G3 : Hid (w.grownBy (w3.alloc (.cells #[.string ⟨#[97]⟩, .string ⟨#[98]⟩, .string ⟨#[108, 111, 99, 107]⟩] 9)) (some p)) := grown_alloc (grown_trans G2.out g3) _
  have l3 : w.heap.size < w3.heap.size := (Array.getElem?_eq_some_iff.1 (blk_kept A2.out g3 (by omega))).1
  have A3 : Hid ((w3.alloc (.cells #[.string ⟨#[97]⟩, .string ⟨#[98]⟩, .string ⟨#[108, 111, 99, 107]⟩] 9)).heap[w.heap.size]? = some (.cells zreq 118 (0, 0))) := (Below.heap_alloc _ _ _ l3).trans (blk_kept A2.out g3 (by omega))
  have hp3 := s3.lt
  clear s3 g3 S2 G2 A2
  go_wp2_with fail
  refine (pick_any w3.heap.size 3 p B (K + 3) _ lk3 xs _ S3.out hB (by omega) hx (by decide) (by decide) (blk_new _ _ _) (by omega) ?_).mono ?_
  · intro j hj
    match j, hj with
    | 0, _ => rfl
    | 1, _ => rfl
    | 2, _ => rfl
  rintro e w4 ⟨r, rfl, hr, s4, g4⟩
  have S4 : Hid (Src B w4 p xs (K + 4)) := s4
  have G4 : Hid (w.grownBy w4 (some p)) := grown_trans G3.out g4
  have A4 : Hid (w4.heap[w.heap.size]? = some (.cells zreq 118 (0, 0))) := blk_kept A3.out g4 (by omega)
  have HO : Hid (opB (tnth lk3 r) = true) := lk3_ok r hr
  have l4 : w.heap.size < w4.heap.size := (Array.getElem?_eq_some_iff.1 A4.out).1
  have hp4 := s4.lt
  clear s4 g4 S3 G3 A3 hp3 l3
  generalize tnth lk3 r = n at HO ⊢
  have A5 : Hid ((w4.alloc (.cells #[.int .i64 c, .int .i64 (1 + st), .int .i64 (1 + k), .int .i64 0, .string n] 118)).heap[w.heap.size]? = some (.cells zreq 118 (0, 0))) := (Below.heap_alloc _ _ _ l4).trans A4.out
  have B5 : Hid ((w4.alloc (.cells #[.int .i64 c, .int .i64 (1 + st), .int .i64 (1 + k), .int .i64 0, .string n] 118)).heap[w4.heap.size]? = some (.cells #[.int .i64 c, .int .i64 (1 + st), .int .i64 (1 + k), .int .i64 0, .string n] 118 (0, 0))) := blk_new _ _ _
  have S5 : Hid (Src B (w4.alloc (.cells #[.int .i64 c, .int .i64 (1 + st), .int .i64 (1 + k), .int .i64 0, .string n] 118)) p xs (K + 4)) := S4.out.alloc hB _
  have G5 : Hid (w.grownBy (w4.alloc (.cells #[.int .i64 c, .int .i64 (1 + st), .int .i64 (1 + k), .int .i64 0, .string n] 118)) (some p)) := grown_alloc G4.out _
  go_upto_region 2 with fail
  generalize w4.alloc (.cells #[.int .i64 c, .int .i64 (1 + st), .int .i64 (1 + k), .int .i64 0, .string n] 118) = w5 at A5 B5 S5 G5 ⊢
  clear A4 S4 G4
  generalize w4.heap.size = x at B5 l4 hp4 ⊢
  have HC : Hid (inB c 0 255 = true) := decide_eq_true ⟨by omega, by omega⟩
  have HT : Hid (inB (1 + (st : Int)) 1 65535 = true) := decide_eq_true ⟨by omega, by omega⟩
  obtain ⟨kd, hkd⟩ : ∃ kd : Int, (1 : Int) + (k : Int) = kd := ⟨_, rfl⟩
  rw [hkd] at B5 ⊢
  have hkr : 1 ≤ kd ∧ kd ≤ 4 := by omega
  clear hkd
  have x2 := (blk_cell B5.out 2 (x := .int .i64 kd) rfl).1
  by_cases hle : kd = 1 ∨ kd = 3
  · have HL : Hid (∀ l : Nat, l < 30 → leB kd (1 + (l : Int)) = true) := fun l hl => decide_eq_true (.inl ⟨hle, by omega, by omega⟩)
    have hq : (kd == 1 || kd == 3) = true := by rcases hle with h | h <;> simp [h]
    obtain ⟨x3, y3⟩ := blk_cell B5.out 3 (x := .int .i64 0) rfl
    rcases hle with rfl | rfl
    · clear hq
      go_wp2_with fail
      refine (next_any 30 p B (K + 4) xs _ S5.out hB (by omega) hx (by decide) (by decide)).mono ?_
      rintro e w6 ⟨l, rfl, hl, s6, g6⟩
      have a6 := blk_kept A5.out g6 (by omega)
      have b6 := blk_kept B5.out g6 (by omega)
      obtain ⟨z3, t3⟩ := blk_cell b6 3 (x := .int .i64 0) rfl
      have AZ : Hid ((w6.setCell ⟨x, 3, none⟩ (.int .i64 (1 + l))).heap[w.heap.size]? = some (.cells zreq 118 (0, 0))) := (blk_far (by omega) 3 _).trans a6
      have BZ : Hid ((w6.setCell ⟨x, 3, none⟩ (.int .i64 (1 + l))).heap[x]? = some (.cells #[.int .i64 c, .int .i64 (1 + st), .int .i64 1, .int .i64 (1 + l), .string n] 118 (0, 0))) := blk_set b6 3 _
      have SZ : Hid (Src B (w6.setCell ⟨x, 3, none⟩ (.int .i64 (1 + l))) p xs (K + 5)) := Src.set s6 (by omega) (by omega) 3 _
      have GZ : Hid (w.grownBy (w6.setCell ⟨x, 3, none⟩ (.int .i64 (1 + l))) (some p)) := grown_new (grown_trans G5.out g6) (by omega) 3 _
      clear a6 b6 s6 g6 A5 B5 S5 G5 x2 x3 y3
      go_upto_region 4 with fail
      generalize w6.setCell ⟨x, 3, none⟩ (.int .i64 (1 + l)) = wz at AZ BZ SZ GZ ⊢
      clear z3 t3
      obtain ⟨ca0, fa0⟩ := blk_cell AZ.out 0 (x := .int .i64 0) rfl
      have cb0 := (blk_cell BZ.out 0 (x := .int .i64 c) rfl).1
      obtain ⟨ca1, fa1⟩ := blk_cell AZ.out 1 (x := .int .i64 0) rfl
      have cb1 := (blk_cell BZ.out 1 (x := .int .i64 (1 + st)) rfl).1
      obtain ⟨ca2, fa2⟩ := blk_cell AZ.out 2 (x := .int .i64 0) rfl
      have cb2 := (blk_cell BZ.out 2 (x := .int .i64 1) rfl).1
      obtain ⟨ca3, fa3⟩ := blk_cell AZ.out 3 (x := .int .i64 0) rfl
      have cb3 := (blk_cell BZ.out 3 (x := .int .i64 (1 + l)) rfl).1
      obtain ⟨ca4, fa4⟩ := blk_cell AZ.out 4 (x := .string ⟨#[]⟩) rfl
      have cb4 := (blk_cell BZ.out 4 (x := .string n) rfl).1
      have AF : ((((((wz.setCell ⟨w.heap.size, 0, none⟩ (.int .i64 c)).setCell ⟨w.heap.size, 1, none⟩ (.int .i64 (1 + st))).setCell ⟨w.heap.size, 2, none⟩ (.int .i64 1)).setCell ⟨w.heap.size, 3, none⟩ (.int .i64 (1 + l))).setCell ⟨w.heap.size, 4, none⟩ (.string n))).heap[w.heap.size]? = some (.cells #[.int .i64 c, .int .i64 (1 + st), .int .i64 1, .int .i64 (1 + l), .string n] 118 (0, 0)) := (blk_set (blk_set (blk_set (blk_set (blk_set AZ.out 0 (.int .i64 c)) 1 (.int .i64 (1 + st))) 2 (.int .i64 1)) 3 (.int .i64 (1 + l))) 4 (.string n))
      have GF : Hid (w.grownBy (((((wz.setCell ⟨w.heap.size, 0, none⟩ (.int .i64 c)).setCell ⟨w.heap.size, 1, none⟩ (.int .i64 (1 + st))).setCell ⟨w.heap.size, 2, none⟩ (.int .i64 1)).setCell ⟨w.heap.size, 3, none⟩ (.int .i64 (1 + l))).setCell ⟨w.heap.size, 4, none⟩ (.string n)) (some p)) := (grown_new (grown_new (grown_new (grown_new (grown_new GZ.out (Nat.le_refl _) 0 (.int .i64 c)) (Nat.le_refl _) 1 (.int .i64 (1 + st))) (Nat.le_refl _) 2 (.int .i64 1)) (Nat.le_refl _) 3 (.int .i64 (1 + l))) (Nat.le_refl _) 4 (.string n))
      have SF : Hid (Src B (((((wz.setCell ⟨w.heap.size, 0, none⟩ (.int .i64 c)).setCell ⟨w.heap.size, 1, none⟩ (.int .i64 (1 + st))).setCell ⟨w.heap.size, 2, none⟩ (.int .i64 1)).setCell ⟨w.heap.size, 3, none⟩ (.int .i64 (1 + l))).setCell ⟨w.heap.size, 4, none⟩ (.string n)) p xs (K + 5)) := (Src.set (Src.set (Src.set (Src.set (Src.set SZ.out (by omega) (by omega) 0 (.int .i64 c)) (by omega) (by omega) 1 (.int .i64 (1 + st))) (by omega) (by omega) 2 (.int .i64 1)) (by omega) (by omega) 3 (.int .i64 (1 + l))) (by omega) (by omega) 4 (.string n))
      go_wp2_with fail
      generalize (((((wz.setCell ⟨w.heap.size, 0, none⟩ (.int .i64 c)).setCell ⟨w.heap.size, 1, none⟩ (.int .i64 (1 + st))).setCell ⟨w.heap.size, 2, none⟩ (.int .i64 1)).setCell ⟨w.heap.size, 3, none⟩ (.int .i64 (1 + l))).setCell ⟨w.heap.size, 4, none⟩ (.string n)) = wf at AF GF SF ⊢
      have d0 := (blk_cell AF 0 (x := .int .i64 c) rfl).1
      have d1 := (blk_cell AF 1 (x := .int .i64 (1 + st)) rfl).1
      have d2 := (blk_cell AF 2 (x := .int .i64 1) rfl).1
      have d3 := (blk_cell AF 3 (x := .int .i64 (1 + l)) rfl).1
      have d4 := (blk_cell AF 4 (x := .string n) rfl).1
      exact bodyPost_ret (v := .agg #[.int .i64 c, .int .i64 (1 + st), .int .i64 1, .int .i64 (1 + l), .string n]) (by simp [results, Tryz.results110, go_sem, d0, d1, d2, d3, d4]) rfl ⟨_, _, _, _, _, rfl, req_ok HC.out HT.out (HL.out l hl) HO.out, SF.out, GF.out⟩
    · clear hq
      go_wp2_with fail
      refine (next_any 30 p B (K + 4) xs _ S5.out hB (by omega) hx (by decide) (by decide)).mono ?_
      rintro e w6 ⟨l, rfl, hl, s6, g6⟩
      have a6 := blk_kept A5.out g6 (by omega)
      have b6 := blk_kept B5.out g6 (by omega)
      obtain ⟨z3, t3⟩ := blk_cell b6 3 (x := .int .i64 0) rfl
      have AZ : Hid ((w6.setCell ⟨x, 3, none⟩ (.int .i64 (1 + l))).heap[w.heap.size]? = some (.cells zreq 118 (0, 0))) := (blk_far (by omega) 3 _).trans a6
      have BZ : Hid ((w6.setCell ⟨x, 3, none⟩ (.int .i64 (1 + l))).heap[x]? = some (.cells #[.int .i64 c, .int .i64 (1 + st), .int .i64 3, .int .i64 (1 + l), .string n] 118 (0, 0))) := blk_set b6 3 _
      have SZ : Hid (Src B (w6.setCell ⟨x, 3, none⟩ (.int .i64 (1 + l))) p xs (K + 5)) := Src.set s6 (by omega) (by omega) 3 _
      have GZ : Hid (w.grownBy (w6.setCell ⟨x, 3, none⟩ (.int .i64 (1 + l))) (some p)) := grown_new (grown_trans G5.out g6) (by omega) 3 _
      clear a6 b6 s6 g6 A5 B5 S5 G5 x2 x3 y3
      go_upto_region 4 with fail
      generalize w6.setCell ⟨x, 3, none⟩ (.int .i64 (1 + l)) = wz at AZ BZ SZ GZ ⊢
      clear z3 t3
      obtain ⟨ca0, fa0⟩ := blk_cell AZ.out 0 (x := .int .i64 0) rfl
      have cb0 := (blk_cell BZ.out 0 (x := .int .i64 c) rfl).1
      obtain ⟨ca1, fa1⟩ := blk_cell AZ.out 1 (x := .int .i64 0) rfl
      have cb1 := (blk_cell BZ.out 1 (x := .int .i64 (1 + st)) rfl).1
      obtain ⟨ca2, fa2⟩ := blk_cell AZ.out 2 (x := .int .i64 0) rfl
      have cb2 := (blk_cell BZ.out 2 (x := .int .i64 3) rfl).1
      obtain ⟨ca3, fa3⟩ := blk_cell AZ.out 3 (x := .int .i64 0) rfl
      have cb3 := (blk_cell BZ.out 3 (x := .int .i64 (1 + l)) rfl).1
      obtain ⟨ca4, fa4⟩ := blk_cell AZ.out 4 (x := .string ⟨#[]⟩) rfl
      have cb4 := (blk_cell BZ.out 4 (x := .string n) rfl).1
      have AF : ((((((wz.setCell ⟨w.heap.size, 0, none⟩ (.int .i64 c)).setCell ⟨w.heap.size, 1, none⟩ (.int .i64 (1 + st))).setCell ⟨w.heap.size, 2, none⟩ (.int .i64 3)).setCell ⟨w.heap.size, 3, none⟩ (.int .i64 (1 + l))).setCell ⟨w.heap.size, 4, none⟩ (.string n))).heap[w.heap.size]? = some (.cells #[.int .i64 c, .int .i64 (1 + st), .int .i64 3, .int .i64 (1 + l), .string n] 118 (0, 0)) := (blk_set (blk_set (blk_set (blk_set (blk_set AZ.out 0 (.int .i64 c)) 1 (.int .i64 (1 + st))) 2 (.int .i64 3)) 3 (.int .i64 (1 + l))) 4 (.string n))
      have GF : Hid (w.grownBy (((((wz.setCell ⟨w.heap.size, 0, none⟩ (.int .i64 c)).setCell ⟨w.heap.size, 1, none⟩ (.int .i64 (1 + st))).setCell ⟨w.heap.size, 2, none⟩ (.int .i64 3)).setCell ⟨w.heap.size, 3, none⟩ (.int .i64 (1 + l))).setCell ⟨w.heap.size, 4, none⟩ (.string n)) (some p)) := (grown_new (grown_new (grown_new (grown_new (grown_new GZ.out (Nat.le_refl _) 0 (.int .i64 c)) (Nat.le_refl _) 1 (.int .i64 (1 + st))) (Nat.le_refl _) 2 (.int .i64 3)) (Nat.le_refl _) 3 (.int .i64 (1 + l))) (Nat.le_refl _) 4 (.string n))
      have SF : Hid (Src B (((((wz.setCell ⟨w.heap.size, 0, none⟩ (.int .i64 c)).setCell ⟨w.heap.size, 1, none⟩ (.int .i64 (1 + st))).setCell ⟨w.heap.size, 2, none⟩ (.int .i64 3)).setCell ⟨w.heap.size, 3, none⟩ (.int .i64 (1 + l))).setCell ⟨w.heap.size, 4, none⟩ (.string n)) p xs (K + 5)) := (Src.set (Src.set (Src.set (Src.set (Src.set SZ.out (by omega) (by omega) 0 (.int .i64 c)) (by omega) (by omega) 1 (.int .i64 (1 + st))) (by omega) (by omega) 2 (.int .i64 3)) (by omega) (by omega) 3 (.int .i64 (1 + l))) (by omega) (by omega) 4 (.string n))
      go_wp2_with fail
      generalize (((((wz.setCell ⟨w.heap.size, 0, none⟩ (.int .i64 c)).setCell ⟨w.heap.size, 1, none⟩ (.int .i64 (1 + st))).setCell ⟨w.heap.size, 2, none⟩ (.int .i64 3)).setCell ⟨w.heap.size, 3, none⟩ (.int .i64 (1 + l))).setCell ⟨w.heap.size, 4, none⟩ (.string n)) = wf at AF GF SF ⊢
      have d0 := (blk_cell AF 0 (x := .int .i64 c) rfl).1
      have d1 := (blk_cell AF 1 (x := .int .i64 (1 + st)) rfl).1
      have d2 := (blk_cell AF 2 (x := .int .i64 3) rfl).1
      have d3 := (blk_cell AF 3 (x := .int .i64 (1 + l)) rfl).1
      have d4 := (blk_cell AF 4 (x := .string n) rfl).1
      exact bodyPost_ret (v := .agg #[.int .i64 c, .int .i64 (1 + st), .int .i64 3, .int .i64 (1 + l), .string n]) (by simp [results, Tryz.results110, go_sem, d0, d1, d2, d3, d4]) rfl ⟨_, _, _, _, _, rfl, req_ok HC.out HT.out (HL.out l hl) HO.out, SF.out, GF.out⟩
  · have HL : Hid (leB kd 0 = true) := decide_eq_true (.inr ⟨by omega, rfl⟩)
    have q1 : (kd == 1) = false := by simp; omega
    have q3 : (kd == 3) = false := by simp; omega
    have SZ : Hid (Src B w5 p xs (K + 5)) := S5.out.le (by omega)
    clear hle S5
    go_upto_region 4 with fail
    obtain ⟨ca0, fa0⟩ := blk_cell A5.out 0 (x := .int .i64 0) rfl
    have cb0 := (blk_cell B5.out 0 (x := .int .i64 c) rfl).1
    obtain ⟨ca1, fa1⟩ := blk_cell A5.out 1 (x := .int .i64 0) rfl
    have cb1 := (blk_cell B5.out 1 (x := .int .i64 (1 + st)) rfl).1
    obtain ⟨ca2, fa2⟩ := blk_cell A5.out 2 (x := .int .i64 0) rfl
    have cb2 := (blk_cell B5.out 2 (x := .int .i64 kd) rfl).1
    obtain ⟨ca3, fa3⟩ := blk_cell A5.out 3 (x := .int .i64 0) rfl
    have cb3 := (blk_cell B5.out 3 (x := .int .i64 0) rfl).1
    obtain ⟨ca4, fa4⟩ := blk_cell A5.out 4 (x := .string ⟨#[]⟩) rfl
    have cb4 := (blk_cell B5.out 4 (x := .string n) rfl).1
    have AF : ((((((w5.setCell ⟨w.heap.size, 0, none⟩ (.int .i64 c)).setCell ⟨w.heap.size, 1, none⟩ (.int .i64 (1 + st))).setCell ⟨w.heap.size, 2, none⟩ (.int .i64 kd)).setCell ⟨w.heap.size, 3, none⟩ (.int .i64 0)).setCell ⟨w.heap.size, 4, none⟩ (.string n))).heap[w.heap.size]? = some (.cells #[.int .i64 c, .int .i64 (1 + st), .int .i64 kd, .int .i64 0, .string n] 118 (0, 0)) := (blk_set (blk_set (blk_set (blk_set (blk_set A5.out 0 (.int .i64 c)) 1 (.int .i64 (1 + st))) 2 (.int .i64 kd)) 3 (.int .i64 0)) 4 (.string n))
    have GF : Hid (w.grownBy (((((w5.setCell ⟨w.heap.size, 0, none⟩ (.int .i64 c)).setCell ⟨w.heap.size, 1, none⟩ (.int .i64 (1 + st))).setCell ⟨w.heap.size, 2, none⟩ (.int .i64 kd)).setCell ⟨w.heap.size, 3, none⟩ (.int .i64 0)).setCell ⟨w.heap.size, 4, none⟩ (.string n)) (some p)) := (grown_new (grown_new (grown_new (grown_new (grown_new G5.out (Nat.le_refl _) 0 (.int .i64 c)) (Nat.le_refl _) 1 (.int .i64 (1 + st))) (Nat.le_refl _) 2 (.int .i64 kd)) (Nat.le_refl _) 3 (.int .i64 0)) (Nat.le_refl _) 4 (.string n))
    have SF : Hid (Src B (((((w5.setCell ⟨w.heap.size, 0, none⟩ (.int .i64 c)).setCell ⟨w.heap.size, 1, none⟩ (.int .i64 (1 + st))).setCell ⟨w.heap.size, 2, none⟩ (.int .i64 kd)).setCell ⟨w.heap.size, 3, none⟩ (.int .i64 0)).setCell ⟨w.heap.size, 4, none⟩ (.string n)) p xs (K + 5)) := (Src.set (Src.set (Src.set (Src.set (Src.set SZ.out (by omega) (by omega) 0 (.int .i64 c)) (by omega) (by omega) 1 (.int .i64 (1 + st))) (by omega) (by omega) 2 (.int .i64 kd)) (by omega) (by omega) 3 (.int .i64 0)) (by omega) (by omega) 4 (.string n))
    go_wp2_with fail
    generalize (((((w5.setCell ⟨w.heap.size, 0, none⟩ (.int .i64 c)).setCell ⟨w.heap.size, 1, none⟩ (.int .i64 (1 + st))).setCell ⟨w.heap.size, 2, none⟩ (.int .i64 kd)).setCell ⟨w.heap.size, 3, none⟩ (.int .i64 0)).setCell ⟨w.heap.size, 4, none⟩ (.string n)) = wf at AF GF SF ⊢
    have d0 := (blk_cell AF 0 (x := .int .i64 c) rfl).1
    have d1 := (blk_cell AF 1 (x := .int .i64 (1 + st)) rfl).1
    have d2 := (blk_cell AF 2 (x := .int .i64 kd) rfl).1
    have d3 := (blk_cell AF 3 (x := .int .i64 0) rfl).1
    have d4 := (blk_cell AF 4 (x := .string n) rfl).1
    exact bodyPost_ret (v := .agg #[.int .i64 c, .int .i64 (1 + st), .int .i64 kd, .int .i64 0, .string n]) (by simp [results, Tryz.results110, go_sem, d0, d1, d2, d3, d4]) rfl ⟨_, _, _, _, _, rfl, req_ok HC.out HT.out HL.out HO.out, SF.out, GF.out⟩
end Go.Proofs.YtkfiahemgdppfaaGreatDoor.Gn

/- Batches that the source draws. -/
namespace Go.Proofs.YtkfiahemgdppfaaGreatDoor.Gn
open Go.RowKit Go.Proofs.YtkfiahemgdppfaaGreatDoor.Sl Go.Proofs.YtkfiahemgdppfaaGreatDoor.By Go.Proofs.YtkfiahemgdppfaaGreatDoor.Ap Go.Proofs.YtkfiahemgdppfaaGreatDoor.Rq Go.Proofs.YtkfiahemgdppfaaGreatDoor.Rr Go.Proofs.YtkfiahemgdppfaaGreatDoor.Ty Go.Proofs.YtkfiahemgdppfaaGreatDoor.Gr Go.Proofs.YtkfiahemgdppfaaGreatDoor.Bo Go.Proofs.YtkfiahemgdppfaaGreatDoor.Tkb
open Go.Proofs.YtkfiahemgdppfaaGreatDoor.Rg (RowG RowG.slice RowG.at lt_at mem_at bel_new)

theorem sha_size (ys : List Int) : (strOfNums (Sh.sha ys)).size = 32 := by
  rw [strOfNums_size]
  show (Sh.outTo _ 8).length = 32
  rw [Sh.outTo_length]
/-- A hash of one byte: a text of 32 bytes. -/
theorem hash1_any (x : Int) (w : World) (h0 : 0 ≤ x ∧ x ≤ 255) (g : Nat) (hg : w.heap[g]? = some (.cells #[.int .u8 x] 5 (0, 0))) :
    Calls Tryz.prog 104 #[.slice (some ⟨g, 0, none⟩) 1 1] w fun e w' => ∃ s : ByteArray, e = .returned (.string s) ∧ s.size = 32 ∧ Below w.heap.size w w' := by
  have hr : RowB w (.slice (some ⟨g, 0, none⟩) 1 1) [x] := ⟨some ⟨g, 0, none⟩, 1, rfl, .inr ⟨g, 0, rfl, by simp, (Array.getElem?_eq_some_iff.1 hg).1, fun i hi => by
    obtain rfl : i = 0 := by simp at hi; exact hi
    exact (blk_cell hg 0 (x := .int .u8 x) rfl).1⟩, fun z hz => by simp at hz; subst hz; exact h0⟩
  refine (Sh.l01Hash_any _ [x] w hr (by simp)).mono ?_
  rintro e w' ⟨rfl, b⟩
  exact ⟨_, rfl, sha_size _, b⟩

/-- While a batch is drawn: its box x, the answer's box, the readings so far (in blocks from y on), the source. -/
structure Tc (w w' : World) (p B x y : Nat) (a1 a2 a3 a4 a5 : Value) (v : Value) (ms : List Rd) (xs : List Int) (K : Nat) : Prop where
  hx : w'.heap[x]? = some (.cells #[.bool false, a1, a2, a3, a4, a5, v] 121 (0, 0))
  ha : w'.heap[w.heap.size]? = some (.cells #[.bool false, .int .i64 0, .int .i64 0, .int .i64 0, .int .i64 0, .string ⟨#[]⟩, .slice none 0 0] 121 (0, 0))
  own : OwnR w' y v ms
  rd : Src B w' p xs K
  gr : w.grownBy w' (some p)
  lt : w.heap.size < x ∧ w.heap.size < y ∧ y ≤ x ∧ p < w.heap.size ∧ B ≤ p
theorem Tc.drew {w w' : World} {p B x y : Nat} {a1 a2 a3 a4 a5 v : Value} {ms : List Rd} {xs : List Int} {K : Nat} (h : Tc w w' p B x y a1 a2 a3 a4 a5 v ms xs K) : Tc w w'.drew p B x y a1 a2 a3 a4 a5 v ms xs K :=
  ⟨h.hx, h.ha, h.own, h.rd, ⟨h.gr.os, h.gr.tape, h.gr.output, h.gr.size, h.gr.block⟩, h.lt⟩
theorem Tc.grown {w w' w2 : World} {p B x y : Nat} {a1 a2 a3 a4 a5 v : Value} {ms : List Rd} {xs : List Int} {K K2 : Nat} (h : Tc w w' p B x y a1 a2 a3 a4 a5 v ms xs K) (hg : w'.grownBy w2 (some p)) (hr : Src B w2 p xs K2) : Tc w w2 p B x y a1 a2 a3 a4 a5 v ms xs K2 :=
  ⟨blk_kept h.hx hg (by have := h.lt; omega), blk_kept h.ha hg (by have := h.lt; omega), own_kept h.own hg (by have := h.lt; omega), hr, grown_trans h.gr hg, h.lt⟩
theorem Tc.below {w w' w2 : World} {p B x y : Nat} {a1 a2 a3 a4 a5 v : Value} {ms : List Rd} {xs : List Int} {K : Nat} (h : Tc w w' p B x y a1 a2 a3 a4 a5 v ms xs K) (hb : Below w'.heap.size w' w2) : Tc w w2 p B x y a1 a2 a3 a4 a5 v ms xs K :=
  h.grown ⟨hb.os, hb.tape, hb.output, hb.size, fun k hk _ => hb.block k hk⟩ (h.rd.kept (hb.block p h.rd.lt) (fun k hk => hb.block k (by have := h.rd.lt; have := h.lt; omega)))
theorem Tc.alloc {w w' : World} {p B x y : Nat} {a1 a2 a3 a4 a5 v : Value} {ms : List Rd} {xs : List Int} {K : Nat} (h : Tc w w' p B x y a1 a2 a3 a4 a5 v ms xs K) (o : Obj) : Tc w (w'.alloc o) p B x y a1 a2 a3 a4 a5 v ms xs K :=
  h.below (bel_new _ _)
theorem Tc.c6 {w w' : World} {p B x y : Nat} {a1 a2 a3 a4 a5 v : Value} {ms : List Rd} {xs : List Int} {K : Nat} (h : Tc w w' p B x y a1 a2 a3 a4 a5 v ms xs K) : w'.cell? ⟨x, 6, none⟩ = some v := (blk_cell h.hx 6 (x := v) rfl).1
structure Te (w w' : World) (p B x y : Nat) (a1 a2 a3 a4 a5 : Value) (v v' : Value) (ms : List Rd) (xs : List Int) (K : Nat) : Prop where
  hx : w'.heap[x]? = some (.cells #[.bool false, a1, a2, a3, a4, a5, v] 121 (0, 0))
  ha : w'.heap[w.heap.size]? = some (.cells #[.bool false, .int .i64 0, .int .i64 0, .int .i64 0, .int .i64 0, .string ⟨#[]⟩, .slice none 0 0] 121 (0, 0))
  own : OwnR w' y v' ms
  rd : Src B w' p xs K
  gr : w.grownBy w' (some p)
  lt : w.heap.size < x ∧ w.heap.size < y ∧ y ≤ x ∧ p < w.heap.size ∧ B ≤ p
theorem Te.c6 {w w' : World} {p B x y : Nat} {a1 a2 a3 a4 a5 v v' : Value} {ms : List Rd} {xs : List Int} {K : Nat} (h : Te w w' p B x y a1 a2 a3 a4 a5 v v' ms xs K) : w'.cell? ⟨x, 6, none⟩ = some v ∧ w'.frozen? ⟨x, 6, none⟩ = false := blk_cell h.hx 6 (x := v) rfl
theorem Te.set {w w' : World} {p B x y : Nat} {a1 a2 a3 a4 a5 v v' : Value} {ms : List Rd} {xs : List Int} {K : Nat} (h : Te w w' p B x y a1 a2 a3 a4 a5 v v' ms xs K) : Tc w (w'.setCell ⟨x, 6, none⟩ v') p B x y a1 a2 a3 a4 a5 v' ms xs K :=
  ⟨blk_set h.hx 6 v', (blk_far (by have := h.lt; omega) 6 v').trans h.ha, h.own.kept (fun g hg => blk_far (fun e => own_ne h.own h.hx (by rw [hg, e])) 6 v'), Src.set h.rd (by have := h.lt; omega) (by have := h.lt; omega) 6 v', grown_new h.gr (by have := h.lt; omega) 6 v', h.lt⟩
theorem step_tc {P : Program} {ops : Array Oper} {o : Oper} {a : Act} {K : Act → World → Prop} {Q : Exit → Act → World → Prop} {E : Prop} {i : TypeInfo} (hgd : o.guard = none) (s z : Operand) (t : TypeId) (ho : o.op = .call { callee := .builtin .append, args := #[s, z], argTypes := #[t, t] }) (ht : P.underlying t = some (.slice 157)) (hi : P.info? 157 = some i) (hz : i.zero = some (.agg #[.int .i64 0, .int .i64 0, .string ⟨#[]⟩]))
    (hsize : i.size = 3) (hby : i.bytes = 32) (W w : World) (p B x y : Nat) (a1 a2 a3 a4 a5 v : Value) (ms : List Rd) (xs : List Int) (K0 : Nat) (m : Rd) (hs : a.eval s = v) (gx : Nat) (hx : a.eval z = .slice (some ⟨gx, 0, none⟩) 1 1) (hbx : W.heap[gx]? = some (.cells #[.int .i64 m.f, .int .i64 m.x, .string m.m] 157 (0, 0)))
    (htb : Tc w W p B x y a1 a2 a3 a4 a5 v ms xs K0) (hlen : ms.length ≤ 1000000)
    (h : ∀ v' w', Te w w' p B x y a1 a2 a3 a4 a5 v v' (ms ++ [m]) xs K0 → K (a.put o.dst v') w') : if Region.wanted o (yielded ops a.tmps) = true then Oper.wp P o a W K Q else E := by
  have hw : Region.wanted o (yielded ops a.tmps) = true := by simp [Region.wanted, hgd]
  rw [if_pos hw]
  have hxl := (Array.getElem?_eq_some_iff.1 htb.hx).1
  obtain ⟨v', w', hr, h2, h3, _, h5⟩ := run_append_own_at (P := P) W y t o.type 157 i _ 3 32 ht hi hz hsize hby rfl (by decide) v ms.length _ htb.own ⟨gx, 0, none⟩ 1 1 (cl m) rfl (by
    intro j u hj
    have e2 : (⟨gx, 0, none⟩ : Addr).add j = ⟨gx, j, none⟩ := by unfold Addr.add; split <;> simp_all
    rw [e2, Joins.cell_of_block hbx, ← hj]
    simp [cl]) (cl_one m) (by unfold maxLen; omega) (by have := htb.lt; omega) (by have := htb.lt; omega)
  have far : ∀ k, k < y ∨ k = x → k < W.heap.size → w'.heap[k]? = W.heap[k]? := fun k hk hkl => h3.block k hkl (fun e => by
    rcases hk with hk | rfl
    · have := (htb.own.lt k e.symm).1; omega
    · exact own_ne htb.own htb.hx e)
  refine wp_app ho hs hx hr (h v' w' ⟨(far x (.inr rfl) hxl).trans htb.hx, (far _ (.inl (by have := htb.lt; omega)) (Nat.lt_of_lt_of_le htb.lt.1 (Nat.le_of_lt hxl))).trans htb.ha, by unfold OwnR; rw [List.flatMap_append, List.length_append]; simpa using h2, htb.rd.kept (far p (.inl (by have := htb.lt; omega)) htb.rd.lt) (fun k hk => far k (.inl (by have := htb.lt; omega)) (by have := htb.lt; have := htb.rd.lt; omega)), ⟨h3.os.trans htb.gr.os, h3.tape.trans htb.gr.tape, h3.output.trans htb.gr.output, Nat.le_trans htb.gr.size h3.size, fun k hk hn => (far k (.inl (by have := htb.lt; omega)) (Nat.lt_of_lt_of_le hk htb.gr.size)).trans (htb.gr.block k hk hn)⟩, htb.lt⟩)

theorem rOK_snoc (m : Rd) (hm : m.f ≤ 6 ∧ 0 ≤ m.x ∧ m.x ≤ 1000000000 ∧ m.m.size = 8) : ∀ (ms : List Rd) (l : Int), rOK l ms = true → (∀ x ∈ ms, x.f < m.f) → l ≤ m.f → rOK l (ms ++ [m]) = true
  | [], l, _, _, hl => by
    show (r1 l m && true) = true
    have h1 : inB m.f l 6 = true := decide_eq_true ⟨hl, hm.1⟩
    have h2 : inB m.x 0 1000000000 = true := decide_eq_true ⟨hm.2.1, hm.2.2.1⟩
    unfold r1
    rw [h1, h2, hm.2.2.2]
    rfl
  | y :: ys, l, h, hx, hl => by
    have h' : (r1 l y && rOK (y.f + 1) ys) = true := h
    rw [Bool.and_eq_true] at h'
    show (r1 l y && rOK (y.f + 1) (ys ++ [m])) = true
    rw [h'.1, rOK_snoc m hm ys (y.f + 1) h'.2 (fun x hx' => hx x (List.mem_cons_of_mem _ hx')) (by have := hx y (by simp); omega)]
    rfl

theorem own_set {w : World} {B b : Nat} {v : Value} {ms : List Rd} (h : OwnR w B v ms) (hb : b < B) (i : Nat) (x : Value) : OwnR (w.setCell ⟨b, i, none⟩ x) B v ms :=
  h.kept fun g hg => blk_far (by have := (h.lt g hg).1; omega) i x

theorem null_ok : bOK true 0 0 0 0 ⟨#[]⟩ [] = true := by
  have hz : zB 0 0 0 0 ⟨#[]⟩ = true := by unfold zB; simp
  show (zB 0 0 0 0 ⟨#[]⟩ && ((([] : List Rd).length : Int) == 0)) = true
  rw [hz]
  rfl
end Go.Proofs.YtkfiahemgdppfaaGreatDoor.Gn
