/-
  A client accepts one answer for each call, one that f + 1 nodes gave, and no call begins while another is under way.
  Conditions: none beyond the given row's own; the package variable that it reads starts as the program's text lays it (the card ties it).
-/
import Derived.Test.YtiflfcpoajijaaaDoorHashLaid
import Derived.Test.YtiflfcpoajijaaaDoorJFnClients11
import Derived.Test.YtiflfcpoajijaaaDoorLa
import Derived.Test.YtiflfcpoajijaaaDoorSlRow
import Derived.Test.YtiflfcpoajijaaaDoorOb
import Derived.WalkKit
namespace Go.Proofs.YtiflfcpoajijaaaDoor.fnClients
open Go.ChangeShapes Go.WideShapes Go.ChangeAt Go.RowKit
open Go.ChangeMaps (open_string shut_string)
open Go.Proofs.YtiflfcpoajijaaaDoor.Hl (own laidOut rowed door_met)

open Go.Proofs.YtiflfcpoajijaaaDoor.Gy (Re)
open Go.Proofs.YtiflfcpoajijaaaDoor.Ry (anB mkR mkC rokB implMakeReply_any)
open Go.Proofs.YtiflfcpoajijaaaDoor.Rk (An anV guardA neqA)
open Go.Proofs.YtiflfcpoajijaaaDoor.Rl13
open Go.Proofs.YtiflfcpoajijaaaDoor.Cl (Cd clV Has Mine Tc caR caC ca_wait implClientCall_any implClientTake_any implClientOK_any implNewClient_any ncD ncC nc_yes)
open Go.Proofs.YtiflfcpoajijaaaDoor.Sh (KTab KTab.below)
open Go.Proofs.YtiflfcpoajijaaaDoor.Sl (RowB)
open Go.Proofs.YtiflfcpoajijaaaDoor.Rm (inR)
open Go.Proofs.YtiflfcpoajijaaaDoor.Rq (reqB inB leB opB)
theorem rq_parts {id : Nat} {qc qs k l : Int} {nm : ByteArray} (h : id ≤ 255) (hq : reqB qc qs k l nm = true) : inB (id : Int) 0 255 = true ∧ leB k l = true ∧ opB nm = true := by
  unfold reqB at hq
  simp only [Bool.and_eq_true] at hq
  exact ⟨by unfold inB; simp; omega, hq.2.2.1, hq.2.2.2⟩
theorem cal_again2 {id i : Nat} {k l : Int} {nm : ByteArray} {ac : List An} {T U : An} (h : Ok id i k l nm ac T U) : caR 4 (cst id i k l nm ac T U 0) k l nm = cst id i k l nm ac T U 0 ∧ caC 4 (cst id i k l nm ac T U 0) k l nm = 15 := by
  have hn := op_len h.rq_.2.2
  exact ca_wait (by omega) (cst_ok h (by decide)) (by rw [(cst_bu id i k l nm ac T U 0).1]; rfl)
theorem tk_le {T : An} (h : tkB T = true) : 0 ≤ T.2.1 ∧ T.2.1 ≤ 2 := by
  unfold tkB okA anB inR at h
  simp at h
  omega
theorem tk_ok {T : An} (h : tkB T = true) : okA T = true := by
  unfold tkB at h
  simp only [Bool.and_eq_true] at h
  exact h.1
theorem tk_up {T : An} (h : tkB T = true) : okA (T.1, T.2.1 + 1, T.2.2.1, T.2.2.2) = true := by
  unfold tkB okA anB inR at h
  unfold okA anB inR
  simp at h ⊢
  omega
theorem tk_ne (T : An) : ¬ ((T.1, T.2.1 + 1, T.2.2.1, T.2.2.2) : An) = T := fun h => by
  have := congrArg (fun t : An => t.2.1) h
  simp only at this
  omega
theorem ne_kind {W : World} {x y : Nat} {A B : Array Value} (h : W.heap[x]? = some (.cells A 35 (0, 0))) (g : W.heap[y]? = some (.cells B 28 (0, 0))) : x ≠ y := fun e => by
  subst e
  rw [h] at g
  have := (Obj.cells.injEq .. ▸ Option.some.inj g).2.1
  exact absurd this (by decide)
theorem cw_set {w W : World} {b p : Nat} {c : Cd} {vr va : Value} {x : Value} {j : Nat} (h : Cw w W b c vr va) (hp : b < p) (hr : ∀ k, vr.ownBlock = some k → k ≠ p) (ha : ∀ k, va.ownBlock = some k → k ≠ p) : Cw w (W.setCell ⟨p, j, none⟩ x) b c vr va :=
  ⟨(Rg.blk_far (by omega) _ _).trans h.bx, ⟨h.mi.1.kept (fun g hg => Rg.blk_far (hr g hg) _ _), h.mi.2.kept (fun g hg => Rg.blk_far (ha g hg) _ _)⟩, h.be.setCell (p := ⟨p, j, none⟩) (by have := h.ge; show _ ≤ p; omega) _, h.ge⟩
theorem sai_lie (T U : An) {j : Nat} (h : j < 2) : sai T U j = U := by
  match j, h with
  | 0, _ => rfl
  | 1, _ => rfl
theorem sai_true (T U : An) {j : Nat} (h : ¬ j < 2) : sai T U j = T := by
  match j, h with
  | 0, h => exact absurd (by decide) h
  | 1, h => exact absurd (by decide) h
  | _ + 2, _ => rfl
theorem nod_cell (W : World) {j : Nat} (h : j < 4) : (W.alloc (.cells #[.int .i64 3, .int .i64 3, .int .i64 1, .int .i64 2] 3)).cell? ⟨W.heap.size, j, none⟩ = some (.int .i64 (nod j : Int)) := by
  have hh := heap_alloc_new W (.cells #[.int .i64 3, .int .i64 3, .int .i64 1, .int .i64 2] 3)
  match j, h with
  | 0, _ => exact (Rg.blk_cell hh 0 rfl).1
  | 1, _ => exact (Rg.blk_cell hh 1 rfl).1
  | 2, _ => exact (Rg.blk_cell hh 2 rfl).1
  | 3, _ => exact (Rg.blk_cell hh 3 rfl).1
theorem set10_far {W : World} {b g : Nat} {v0 v1 v2 v3 v4 v5 v6 v7 v8 v9 : Value} (h : g ≠ b) : ((((((((((W.setCell ⟨b, 0, none⟩ v0).setCell ⟨b, 1, none⟩ v1).setCell ⟨b, 2, none⟩ v2).setCell ⟨b, 3, none⟩ v3).setCell ⟨b, 4, none⟩ v4).setCell ⟨b, 5, none⟩ v5).setCell ⟨b, 6, none⟩ v6).setCell ⟨b, 7, none⟩ v7).setCell ⟨b, 8, none⟩ v8).setCell ⟨b, 9, none⟩ v9).heap[g]? = W.heap[g]? :=
  (Rg.blk_far h _ _).trans ((Rg.blk_far h _ _).trans ((Rg.blk_far h _ _).trans ((Rg.blk_far h _ _).trans ((Rg.blk_far h _ _).trans ((Rg.blk_far h _ _).trans ((Rg.blk_far h _ _).trans ((Rg.blk_far h _ _).trans ((Rg.blk_far h _ _).trans (Rg.blk_far h _ _)))))))))
theorem last_cell {W : World} {a : Option Addr} {n cap m : Nat} {ac : List An} {T : An} (h : Ga.Row W (.slice a n cap) (ac ++ [T])) (hl : ac.length = m) : ∃ g o, a = some ⟨g, o, none⟩ ∧ W.cell? ⟨g, o + m * 4, none⟩ = some (.int .i64 T.1) ∧ W.cell? ⟨g, o + m * 4 + 1, none⟩ = some (.int .i64 T.2.1) ∧ W.cell? ⟨g, o + m * 4 + 2, none⟩ = some (.int .i64 T.2.2.1) ∧ W.cell? ⟨g, o + m * 4 + 3, none⟩ = some (.int .i64 T.2.2.2) := by
  obtain ⟨a', cap', e, h⟩ := h
  cases e
  rcases h with h | ⟨b, off, rfl, _, _, h⟩
  · exact absurd h (by simp)
  · have hx : (ac ++ [T])[m]? = some T := by rw [← hl]; simp
    obtain ⟨h0, h1, h2, h3⟩ := h m T hx
    exact ⟨b, off, rfl, h0, h1, h2, h3⟩
set_option maxRecDepth 100000 in
set_option maxHeartbeats 6400000 in
/-- THE WALK. -/
theorem walk (v0 : Value) (xs0 : List Int) {w : World} (r0 : RowB w v0 xs0) (v1 : Value) (xs1 : List Int) (r1 : RowB w v1 xs1) (hK : KTab w) (hp : 0 < w.heap.size) :
    Calls Tryd.prog 3 #[v0, v1] w fun e w' => e = .returned (.bool true) ∧ Below w.heap.size w w' := by
  have HKT : Hid (∀ W, Below w.heap.size w W → KTab W ∧ 0 < W.heap.size) := fun W hW => ⟨hK.below hW hp, Nat.lt_of_lt_of_le hp hW.size⟩
  have HR : Hid (∀ W, Below w.heap.size w W → RowB W v0 xs0 ∧ RowB W v1 xs1) := fun W hW => ⟨r0.below hW, r1.below hW⟩
  obtain ⟨a0, cA, rfl, _, _⟩ := r0
  obtain ⟨a1, cB, rfl, _, _⟩ := r1
  clear hK hp
  by_cases hb0 : (1048576 : Int) < (xs0.length : Int)
  · go_enter Tryd.func3, Tryd.ntmps3
    go_wp2
    go_ret
    exact ⟨rfl, Below.refl _ _⟩
  by_cases hb1 : (1048576 : Int) < (xs1.length : Int)
  · go_enter Tryd.func3, Tryd.ntmps3
    go_wp2
    go_ret
    exact ⟨rfl, Below.refl _ _⟩
  have HL : Hid (∀ _ : Unit, xs0.length ≤ 1048576 ∧ xs1.length ≤ 1048576) := fun _ => ⟨by omega, by omega⟩
  obtain ⟨j0, hj0, jz0, jz1, jz2⟩ := info_parts Sl.info5
  go_enter Tryd.func3, Tryd.ntmps3
  go_wp2_with fail
  refine (La.at_any _ xs1 0 256 _ (HR.out _ (Below.refl _ _)).2 (HL.out ()).2 (by decide) (by decide) (by decide)).mono ?_
  rintro e w1 ⟨id, rfl, hid, b1⟩
  have HID : Hid (id ≤ 255) := by show _ ≤ _; omega
  have HB1 : Hid (Below w.heap.size w w1) := b1
  have HNC : Hid (Calls Tryd.prog 4 #[.int .i64 (id : Int)] w1 fun e w' => e = .returned (.tuple #[.agg #[.int .i64 (id : Int), .int .i64 0, .bool false, .int .i64 0, .int .i64 0, .int .i64 0, .int .i64 0, .string ⟨#[]⟩, .slice none 0 0, .slice none 0 0], .int .i64 0]) ∧ Below w1.heap.size w1 w') := by
    have h := implNewClient_any (id : Int) w1
    obtain ⟨e1, e2⟩ := nc_yes (i := (id : Int)) (by unfold inB; simp; omega)
    rw [e1, e2] at h
    exact h
  clear b1 hid
  go_wp2_with fail
  refine HNC.out.mono ?_
  rintro e w2 ⟨rfl, b2⟩
  have HC0 : Hid (Cw w (w2.alloc (.cells #[.int .i64 (id : Int), .int .i64 0, .bool false, .int .i64 0, .int .i64 0, .int .i64 0, .int .i64 0, .string ⟨#[]⟩, .slice none 0 0, .slice none 0 0] 28)) w2.heap.size (rst id 0 []) (.slice none 0 0) (.slice none 0 0)) := Cw.new w (rst id 0 []) _ _ w2 (HB1.out.trans (b2.mono HB1.out.size)) ⟨Rr11.OwnR.nil _ _, Ox.OwnX.nil _ _⟩
  clear b2 HNC HB1
  go_upto_region 4 with fail
  generalize w2.alloc (.cells #[.int .i64 (id : Int), .int .i64 0, .bool false, .int .i64 0, .int .i64 0, .int .i64 0, .int .i64 0, .string ⟨#[]⟩, .slice none 0 0, .slice none 0 0] 28) = w3 at HC0 ⊢
  generalize w2.heap.size = bC at HC0 ⊢
  go_wp2_with fail
  go_loopw [7] (fun i wr => ∃ m : Nat, m ≤ 3 ∧ i = .int .i64 m ∧ Hid (∃ ac vr va, (ac.length = m ∧ ac.all okA = true) ∧ Cw w wr bC (rst id m ac) vr va)) (fun i _ => 3 - (intOf i).toNat)
  case atStart => exact ⟨0, by omega, rfl, ⟨[], _, _, ⟨rfl, rfl⟩, HC0.out⟩⟩
  case round =>
    clear HC0
    obtain ⟨m, hm, rfl, HI⟩ := hrel
    obtain ⟨ac, vr, va, hac, hcw⟩ := HI.out
    have HCW : Hid (Cw w wr bC (rst id m ac) vr va) := hcw
    have HAC : Hid (ac.length = m ∧ ac.all okA = true) := hac
    clear HI hac
    obtain ⟨r0a, r0k, rfl⟩ : ∃ a c, vr = .slice a 0 c := hcw.mi.1.slice
    obtain ⟨r1a, r1k, rfl⟩ : ∃ a c, va = .slice a ac.length c := hcw.mi.2.slice
    clear hcw
    by_cases hlt3 : m < 3
    · have hlt3I : (m : Int) < 3 := by omega
      have hw8 : IntKind.u8.wrap (m : Int) = (m : Int) := by rw [IntKind.wrap_u8]; omega
      have ob := Ap.own_one 5 wr wr.heap.size (m : Int) (Nat.le_refl _)
      have rc := (HR.out _ HCW.out.be).1.below (Rg.bel_new wr (.cells #[.int .u8 (m : Int)] 5))
      have hBw : wr.heap.size ≤ (wr.alloc (.cells #[.int .u8 (m : Int)] 5)).heap.size := by simp
      have hll : [(m : Int)].length + xs0.length ≤ 140737488355328 := by have := HL.out (); simp; omega
      go_wp2_with (at_builtin; go_must (refine Ap.list_row (by rfl) _ _ 22 (by rfl) Tryd.underlying22 hj0 jz0 jz1 jz2 wr.heap.size _ _ _ _ _ (by rfl) (by rfl) ob hBw rc hll ?_; intro v1 w1 o1 k1))
      have b1 : Below wr.heap.size wr w1 := (Rg.bel_new wr _).trans (k1.below ob hBw)
      have hrg : ∀ z ∈ [(m : Int)] ++ xs0, 0 ≤ z ∧ z ≤ 255 := fun z hz => by
        obtain ⟨_, _, _, _, hr⟩ := (HR.out _ HCW.out.be).1
        rcases List.mem_append.1 hz with hz | hz
        · simp at hz; omega
        · exact hr z hz
      have R1 : Hid (RowB w1 v1 ([(m : Int)] ++ xs0)) := Ap.own_rowB o1 hrg
      obtain ⟨v1a, v1c, rfl, _, _⟩ := Ap.own_rowB o1 hrg
      clear ob rc hBw k1 o1 hrg hw8 hll
      go_wp2_with fail
      refine (Gn.RequestOf_wide _ _ w1 R1.out (by have := HL.out (); simp; omega)).mono ?_
      rintro e w2 ⟨qc, qs, k, l, nm, rfl, hq, b2⟩
      have HQ : Hid (reqB qc qs k l nm = true) := hq
      have HCW2 : Hid (Cw w w2 bC (rst id m ac) (.slice r0a 0 r0k) (.slice r1a ac.length r1k)) := (HCW.out.below b1).below b2
      have HR2 : Hid (∀ W, Below (w2.alloc (.cells #[.int .i64 qc, .int .i64 qs, .int .i64 k, .int .i64 l, .string nm] 24)).heap.size (w2.alloc (.cells #[.int .i64 qc, .int .i64 qs, .int .i64 k, .int .i64 l, .string nm] 24)) W → (W.cell? ⟨w2.heap.size, 2, none⟩ = some (.int .i64 k) ∧ W.cell? ⟨w2.heap.size, 3, none⟩ = some (.int .i64 l) ∧ W.cell? ⟨w2.heap.size, 4, none⟩ = some (.string nm)) ∧ Cw w W bC (rst id m ac) (.slice r0a 0 r0k) (.slice r1a ac.length r1k)) := fun W hW => by
        have h1 := (hW.block w2.heap.size (by simp)).trans (heap_alloc_new w2 _)
        exact ⟨⟨(Rg.blk_cell h1 2 rfl).1, (Rg.blk_cell h1 3 rfl).1, (Rg.blk_cell h1 4 rfl).1⟩, HCW2.out.below ((Rg.bel_new w2 _).trans (hW.mono (by simp)))⟩
      clear hq b1 b2 R1 HCW
      go_upto_region 10 with fail
      generalize w2.alloc (.cells #[.int .i64 qc, .int .i64 qs, .int .i64 k, .int .i64 l, .string nm] 24) = w3 at HR2 ⊢
      generalize w2.heap.size = bR at HR2 ⊢
      clear HCW2
      obtain ⟨s, HS⟩ : ∃ s, Hid (((m + 1 : Nat) : Int) = s) := ⟨_, rfl⟩
      obtain ⟨T0, hT0⟩ : ∃ T0 : An, okA T0 = true := ⟨(1, 0, 0, 0), by decide⟩
      obtain ⟨U0, hU0, hne0⟩ : ∃ U0 : An, okA U0 = true ∧ ¬ U0 = T0 := by
        by_cases e : ((1, 0, 0, 0) : An) = T0
        · exact ⟨(2, 0, 0, 0), by decide, by rw [← e]; decide⟩
        · exact ⟨(1, 0, 0, 0), by decide, e⟩
      have HRQ : Hid (inB (id : Int) 0 255 = true ∧ leB k l = true ∧ opB nm = true) := rq_parts HID.out HQ.out
      have HOK0 : Hid (Ok id m k l nm ac T0 U0) := ⟨HID.out, by omega, HAC.out, hT0, hU0, hne0, HRQ.out⟩
      have HCL : Hid (∀ W, Cw w W bC (rst id m ac) (.slice r0a 0 r0k) (.slice r1a ac.length r1k) → Calls Tryd.prog 7 #[.int .i64 4, .agg #[.int .i64 (id : Int), .int .i64 (m : Int), .bool false, .int .i64 0, .int .i64 0, .int .i64 0, .int .i64 0, .string ⟨#[]⟩, .slice r0a 0 r0k, .slice r1a ac.length r1k], .int .i64 k, .string nm, .int .i64 l] W fun e w' => ∃ a1 k1 a2 k2, e = .returned (.tuple #[.agg #[.int .i64 (id : Int), .int .i64 s, .bool true, .int .i64 (id : Int), .int .i64 s, .int .i64 k, .int .i64 l, .string nm, .slice a1 0 k1, .slice a2 ac.length k2], .int .i64 0]) ∧ Hid (Mine w' W.heap.size (wst id m k l nm ac []) (.slice a1 0 k1) (.slice a2 ac.length k2)) ∧ Below W.heap.size W w') := fun W hW => by
        have h := implClientCall_any 4 (rst id m ac) (.slice r0a 0 r0k) (.slice r1a ac.length r1k) k l nm W hW.mi.has (rst_tc (by have := HAC.out.1; omega)) (Nat.le_trans (op_len HRQ.out.2.2) (by decide)) (HKT.out W hW.be).1 (HKT.out W hW.be).2
        refine h.mono ?_
        rintro e w' ⟨vr', va', rfl, hm', hb⟩
        rw [(cal_new HOK0.out).1] at hm' ⊢
        rw [(cal_new HOK0.out).2]
        obtain ⟨a1, k1, rfl⟩ : ∃ a c, vr' = .slice a 0 c := hm'.out.1.slice
        obtain ⟨a2, k2, rfl⟩ : ∃ a c, va' = .slice a ac.length c := hm'.out.2.slice
        rw [← HS.out]
        exact ⟨a1, k1, a2, k2, rfl, hm', hb⟩
      have HCA : Hid (∀ W a1 k1 a2 k2, Has W (wst id m k l nm ac []) (.slice a1 0 k1) (.slice a2 ac.length k2) → Below w.heap.size w W → Calls Tryd.prog 7 #[.int .i64 4, .agg #[.int .i64 (id : Int), .int .i64 s, .bool true, .int .i64 (id : Int), .int .i64 s, .int .i64 k, .int .i64 l, .string nm, .slice a1 0 k1, .slice a2 ac.length k2], .int .i64 k, .string nm, .int .i64 l] W fun e w' => ∃ o0a o0k o1a o1k, e = .returned (.tuple #[.agg #[.int .i64 (id : Int), .int .i64 s, .bool true, .int .i64 (id : Int), .int .i64 s, .int .i64 k, .int .i64 l, .string nm, .slice o0a 0 o0k, .slice o1a ac.length o1k], .int .i64 15]) ∧ Below W.heap.size W w') := fun W a1 k1 a2 k2 hh hW => by
        have h := implClientCall_any 4 (cst id m k l nm ac T0 U0 0) (.slice a1 0 k1) (.slice a2 ac.length k2) k l nm W hh (cst_tc HOK0.out (by decide)) (Nat.le_trans (op_len HRQ.out.2.2) (by decide)) (HKT.out W hW).1 (HKT.out W hW).2
        rw [← HS.out]
        refine h.mono ?_
        rintro e w' ⟨vr', va', rfl, hm', hb⟩
        rw [(cal_again2 HOK0.out).1] at hm' ⊢
        rw [(cal_again2 HOK0.out).2]
        obtain ⟨o0a, o0k, rfl⟩ : ∃ a c, vr' = .slice a 0 c := hm'.out.1.slice
        obtain ⟨o1a, o1k, rfl⟩ : ∃ a c, va' = .slice a ac.length c := hm'.out.2.slice
        exact ⟨o0a, o0k, o1a, o1k, rfl, hb⟩
      clear HOK0 hT0 hU0 hne0 U0 T0
      obtain ⟨q0, q1, q2⟩ := (HR2.out _ (Below.refl _ _)).1
      have hbx := (HR2.out _ (Below.refl _ _)).2.bx
      have c0 := (Rg.blk_cell hbx 0 (x := .int .i64 (id : Int)) rfl).1
      have c1 := (Rg.blk_cell hbx 1 (x := .int .i64 (m : Int)) rfl).1
      have c2 := (Rg.blk_cell hbx 2 (x := .bool false) rfl).1
      have c3 := (Rg.blk_cell hbx 3 (x := .int .i64 0) rfl).1
      have c4 := (Rg.blk_cell hbx 4 (x := .int .i64 0) rfl).1
      have c5 := (Rg.blk_cell hbx 5 (x := .int .i64 0) rfl).1
      have c6 := (Rg.blk_cell hbx 6 (x := .int .i64 0) rfl).1
      have c7 := (Rg.blk_cell hbx 7 (x := .string ⟨#[]⟩) rfl).1
      have c8 := (Rg.blk_cell hbx 8 (x := .slice r0a 0 r0k) rfl).1
      have c9 := (Rg.blk_cell hbx 9 (x := .slice r1a ac.length r1k) rfl).1
      go_wp2_with fail
      refine (HCL.out _ (HR2.out _ (Below.refl _ _)).2).mono ?_
      rintro e w4 ⟨n0a, n0k, n1a, n1k, rfl, HMN, b4⟩
      have HR4 : Hid (∀ W, Below (w4.alloc (.cells #[.int .i64 (id : Int), .int .i64 s, .bool true, .int .i64 (id : Int), .int .i64 s, .int .i64 k, .int .i64 l, .string nm, .slice n0a 0 n0k, .slice n1a ac.length n1k] 28)).heap.size (w4.alloc (.cells #[.int .i64 (id : Int), .int .i64 s, .bool true, .int .i64 (id : Int), .int .i64 s, .int .i64 k, .int .i64 l, .string nm, .slice n0a 0 n0k, .slice n1a ac.length n1k] 28)) W → (W.cell? ⟨bR, 2, none⟩ = some (.int .i64 k) ∧ W.cell? ⟨bR, 3, none⟩ = some (.int .i64 l) ∧ W.cell? ⟨bR, 4, none⟩ = some (.string nm)) ∧ Cw w W bC (rst id m ac) (.slice r0a 0 r0k) (.slice r1a ac.length r1k) ∧ W.heap[w4.heap.size]? = some (.cells #[.int .i64 (id : Int), .int .i64 s, .bool true, .int .i64 (id : Int), .int .i64 s, .int .i64 k, .int .i64 l, .string nm, .slice n0a 0 n0k, .slice n1a ac.length n1k] 28 (0, 0)) ∧ Mine W (bC + 1) (wst id m k l nm ac []) (.slice n0a 0 n0k) (.slice n1a ac.length n1k)) := fun W hW => by
        have hn := (Rg.bel_new w4 (.cells #[.int .i64 (id : Int), .int .i64 s, .bool true, .int .i64 (id : Int), .int .i64 s, .int .i64 k, .int .i64 l, .string nm, .slice n0a 0 n0k, .slice n1a ac.length n1k] 28)).trans (hW.mono (by simp))
        have h0 := b4.trans (hn.mono b4.size)
        have h1 := (hW.block w4.heap.size (by simp)).trans (heap_alloc_new w4 _)
        exact ⟨(HR2.out W h0).1, (HR2.out W h0).2, h1, (HMN.out.mono (HR2.out _ (Below.refl _ _)).2.lt).below hn⟩
      clear hbx q0 q1 q2 c0 c1 c2 c3 c4 c5 c6 c7 c8 c9 b4 HMN HCL
      go_upto_region 11 with fail
      generalize w4.alloc (.cells #[.int .i64 (id : Int), .int .i64 s, .bool true, .int .i64 (id : Int), .int .i64 s, .int .i64 k, .int .i64 l, .string nm, .slice n0a 0 n0k, .slice n1a ac.length n1k] 28) = w5 at HR4 ⊢
      generalize w4.heap.size = bN at HR4 ⊢
      clear HR2
      obtain ⟨q0, q1, q2⟩ := (HR4.out _ (Below.refl _ _)).1
      have hbx := (HR4.out _ (Below.refl _ _)).2.2.1
      have c0 := (Rg.blk_cell hbx 0 (x := .int .i64 (id : Int)) rfl).1
      have c1 := (Rg.blk_cell hbx 1 (x := .int .i64 s) rfl).1
      have c2 := (Rg.blk_cell hbx 2 (x := .bool true) rfl).1
      have c3 := (Rg.blk_cell hbx 3 (x := .int .i64 (id : Int)) rfl).1
      have c4 := (Rg.blk_cell hbx 4 (x := .int .i64 s) rfl).1
      have c5 := (Rg.blk_cell hbx 5 (x := .int .i64 k) rfl).1
      have c6 := (Rg.blk_cell hbx 6 (x := .int .i64 l) rfl).1
      have c7 := (Rg.blk_cell hbx 7 (x := .string nm) rfl).1
      have c8 := (Rg.blk_cell hbx 8 (x := .slice n0a 0 n0k) rfl).1
      have c9 := (Rg.blk_cell hbx 9 (x := .slice n1a ac.length n1k) rfl).1
      go_wp2_with fail
      refine (HCA.out _ n0a n0k n1a n1k (HR4.out _ (Below.refl _ _)).2.2.2.has (HR4.out _ (Below.refl _ _)).2.1.be).mono ?_
      rintro e w6 ⟨o0a, o0k, o1a, o1k, rfl, b6⟩
      have B7 : Hid (Below w5.heap.size w5 (w6.alloc (.cells #[.int .i64 (id : Int), .int .i64 s, .bool true, .int .i64 (id : Int), .int .i64 s, .int .i64 k, .int .i64 l, .string nm, .slice o0a 0 o0k, .slice o1a ac.length o1k] 28))) := b6.trans ((Rg.bel_new w6 _).mono b6.size)
      clear hbx q0 q1 q2 c0 c1 c2 c3 c4 c5 c6 c7 c8 c9 b6 HCA
      go_upto_region 12 with fail
      generalize w6.alloc (.cells #[.int .i64 (id : Int), .int .i64 s, .bool true, .int .i64 (id : Int), .int .i64 s, .int .i64 k, .int .i64 l, .string nm, .slice o0a 0 o0k, .slice o1a ac.length o1k] 28) = w7 at B7 ⊢
      generalize w6.heap.size = bO
      obtain ⟨q0, q1, q2⟩ := (HR4.out _ B7.out).1
      have hbx := (HR4.out _ B7.out).2.2.1
      have hbc := (HR4.out _ B7.out).2.1.bx
      have c0 := (Rg.blk_cell hbx 0 (x := .int .i64 (id : Int)) rfl).1
      have c1 := (Rg.blk_cell hbx 1 (x := .int .i64 s) rfl).1
      have c2 := (Rg.blk_cell hbx 2 (x := .bool true) rfl).1
      have c3 := (Rg.blk_cell hbx 3 (x := .int .i64 (id : Int)) rfl).1
      have c4 := (Rg.blk_cell hbx 4 (x := .int .i64 s) rfl).1
      have c5 := (Rg.blk_cell hbx 5 (x := .int .i64 k) rfl).1
      have c6 := (Rg.blk_cell hbx 6 (x := .int .i64 l) rfl).1
      have c7 := (Rg.blk_cell hbx 7 (x := .string nm) rfl).1
      have c8 := (Rg.blk_cell hbx 8 (x := .slice n0a 0 n0k) rfl).1
      have c9 := (Rg.blk_cell hbx 9 (x := .slice n1a ac.length n1k) rfl).1
      obtain ⟨z0, zf0⟩ := Rg.blk_cell hbc 0 (x := .int .i64 (id : Int)) rfl
      obtain ⟨z1, zf1⟩ := Rg.blk_cell hbc 1 (x := .int .i64 (m : Int)) rfl
      obtain ⟨z2, zf2⟩ := Rg.blk_cell hbc 2 (x := .bool false) rfl
      obtain ⟨z3, zf3⟩ := Rg.blk_cell hbc 3 (x := .int .i64 0) rfl
      obtain ⟨z4, zf4⟩ := Rg.blk_cell hbc 4 (x := .int .i64 0) rfl
      obtain ⟨z5, zf5⟩ := Rg.blk_cell hbc 5 (x := .int .i64 0) rfl
      obtain ⟨z6, zf6⟩ := Rg.blk_cell hbc 6 (x := .int .i64 0) rfl
      obtain ⟨z7, zf7⟩ := Rg.blk_cell hbc 7 (x := .string ⟨#[]⟩) rfl
      obtain ⟨z8, zf8⟩ := Rg.blk_cell hbc 8 (x := .slice r0a 0 r0k) rfl
      obtain ⟨z9, zf9⟩ := Rg.blk_cell hbc 9 (x := .slice r1a ac.length r1k) rfl
      have hsm : (s != (m : Int) + 1) = false := by rw [← HS.out]; simp
      have hmI2 : (m : Int) + 1 ≤ 100 := by omega
      have hnn : (nm.toList != nm.toList) = false := by simp
      have hnn2 : (nm.toList == nm.toList) = true := by simp
      have HC8 : Hid (Cw w ((((((((((w7.setCell ⟨bC, 0, none⟩ (.int .i64 (id : Int))).setCell ⟨bC, 1, none⟩ (.int .i64 s)).setCell ⟨bC, 2, none⟩ (.bool true)).setCell ⟨bC, 3, none⟩ (.int .i64 (id : Int))).setCell ⟨bC, 4, none⟩ (.int .i64 s)).setCell ⟨bC, 5, none⟩ (.int .i64 k)).setCell ⟨bC, 6, none⟩ (.int .i64 l)).setCell ⟨bC, 7, none⟩ (.string nm)).setCell ⟨bC, 8, none⟩ (.slice n0a 0 n0k)).setCell ⟨bC, 9, none⟩ (.slice n1a ac.length n1k)) bC (wst id m k l nm ac []) (.slice n0a 0 n0k) (.slice n1a ac.length n1k)) := by
        have h := (HR4.out _ B7.out).2.1.store (HR4.out _ B7.out).2.2.2
        rw [← HS.out]
        exact h
      go_upto_region 15 with fail
      generalize ((((((((((w7.setCell ⟨bC, 0, none⟩ (.int .i64 (id : Int))).setCell ⟨bC, 1, none⟩ (.int .i64 s)).setCell ⟨bC, 2, none⟩ (.bool true)).setCell ⟨bC, 3, none⟩ (.int .i64 (id : Int))).setCell ⟨bC, 4, none⟩ (.int .i64 s)).setCell ⟨bC, 5, none⟩ (.int .i64 k)).setCell ⟨bC, 6, none⟩ (.int .i64 l)).setCell ⟨bC, 7, none⟩ (.string nm)).setCell ⟨bC, 8, none⟩ (.slice n0a 0 n0k)).setCell ⟨bC, 9, none⟩ (.slice n1a ac.length n1k)) = w8 at HC8 ⊢
      clear hbx hbc q0 q1 q2 c0 c1 c2 c3 c4 c5 c6 c7 c8 c9 z0 z1 z2 z3 z4 z5 z6 z7 z8 z9 zf0 zf1 zf2 zf3 zf4 zf5 zf6 zf7 zf8 zf9 HR4 B7 hsm hnn hnn2 hmI2
      have hw8 : IntKind.u8.wrap (m : Int) = (m : Int) := by rw [IntKind.wrap_u8]; omega
      have ob := Ap.own_one 5 w8 w8.heap.size (m : Int) (Nat.le_refl _)
      have rc := (HR.out _ HC8.out.be).2.below (Rg.bel_new w8 (.cells #[.int .u8 (m : Int)] 5))
      have hBw : w8.heap.size ≤ (w8.alloc (.cells #[.int .u8 (m : Int)] 5)).heap.size := by simp
      have hll : [(m : Int)].length + xs1.length ≤ 140737488355328 := by have := HL.out (); simp; omega
      go_wp2_with (at_builtin; go_must (refine Ap.list_row (by rfl) _ _ 22 (by rfl) Tryd.underlying22 hj0 jz0 jz1 jz2 w8.heap.size _ _ _ _ _ (by rfl) (by rfl) ob hBw rc hll ?_; intro v9 w9 o9 k9))
      have b9 : Below w8.heap.size w8 w9 := (Rg.bel_new w8 _).trans (k9.below ob hBw)
      have hrg : ∀ z ∈ [(m : Int)] ++ xs1, 0 ≤ z ∧ z ≤ 255 := fun z hz => by
        obtain ⟨_, _, _, _, hr⟩ := (HR.out _ HC8.out.be).2
        rcases List.mem_append.1 hz with hz | hz
        · simp at hz; omega
        · exact hr z hz
      have R9 : Hid (RowB w9 v9 ([(m : Int)] ++ xs1)) := Ap.own_rowB o9 hrg
      obtain ⟨v9a, v9c, rfl, _, _⟩ := Ap.own_rowB o9 hrg
      clear ob rc hBw k9 o9 hrg hw8 hll
      go_wp2_with fail
      refine (AnswerOf_any _ _ w9 R9.out (by have := HL.out (); simp; omega)).mono ?_
      rintro e w10 ⟨T, rfl, hT, b10⟩
      have HC10 : Hid (Cw w w10 bC (wst id m k l nm ac []) (.slice n0a 0 n0k) (.slice n1a ac.length n1k)) := (HC8.out.below b9).below b10
      have HT : Hid (tkB T = true) := hT
      have hT2 : 0 ≤ T.2.1 := (tk_le hT).1
      have hT3 : T.2.1 ≤ 2 := (tk_le hT).2
      have HA10 : Hid ((w10.alloc (.cells #[.int .i64 T.1, .int .i64 T.2.1, .int .i64 T.2.2.1, .int .i64 T.2.2.2] 35)).heap[w10.heap.size]? = some (.cells #[.int .i64 T.1, .int .i64 T.2.1, .int .i64 T.2.2.1, .int .i64 T.2.2.2] 35 (0, 0)) ∧ Cw w (w10.alloc (.cells #[.int .i64 T.1, .int .i64 T.2.1, .int .i64 T.2.2.1, .int .i64 T.2.2.2] 35)) bC (wst id m k l nm ac []) (.slice n0a 0 n0k) (.slice n1a ac.length n1k)) := ⟨heap_alloc_new w10 _, HC10.out.below (Rg.bel_new _ _)⟩
      clear hT b9 b10 R9 HC8
      unfold anV
      go_upto_region 16 with fail
      generalize w10.alloc (.cells #[.int .i64 T.1, .int .i64 T.2.1, .int .i64 T.2.2.1, .int .i64 T.2.2.2] 35) = w11 at HA10 ⊢
      generalize w10.heap.size = bA at HA10 ⊢
      clear HC10
      have a0 := (Rg.blk_cell HA10.out.1 0 (x := .int .i64 T.1) rfl).1
      have a1 := (Rg.blk_cell HA10.out.1 1 (x := .int .i64 T.2.1) rfl).1
      have a2 := (Rg.blk_cell HA10.out.1 2 (x := .int .i64 T.2.2.1) rfl).1
      have a3 := (Rg.blk_cell HA10.out.1 3 (x := .int .i64 T.2.2.2) rfl).1
      have HA12 : Hid ((w11.alloc (.cells #[.int .i64 T.1, .int .i64 T.2.1, .int .i64 T.2.2.1, .int .i64 T.2.2.2] 35)).heap[w11.heap.size]? = some (.cells #[.int .i64 T.1, .int .i64 T.2.1, .int .i64 T.2.2.1, .int .i64 T.2.2.2] 35 (0, 0)) ∧ (w11.alloc (.cells #[.int .i64 T.1, .int .i64 T.2.1, .int .i64 T.2.2.1, .int .i64 T.2.2.2] 35)).heap[bA]? = some (.cells #[.int .i64 T.1, .int .i64 T.2.1, .int .i64 T.2.2.1, .int .i64 T.2.2.2] 35 (0, 0)) ∧ Cw w (w11.alloc (.cells #[.int .i64 T.1, .int .i64 T.2.1, .int .i64 T.2.2.1, .int .i64 T.2.2.2] 35)) bC (wst id m k l nm ac []) (.slice n0a 0 n0k) (.slice n1a ac.length n1k) ∧ bA ≠ w11.heap.size ∧ bC < w11.heap.size ∧ (∀ k, (Value.slice n0a 0 n0k).ownBlock = some k → k ≠ w11.heap.size) ∧ (∀ k, (Value.slice n1a ac.length n1k).ownBlock = some k → k ≠ w11.heap.size)) := ⟨heap_alloc_new w11 _, ((Rg.bel_new w11 _).block _ (Array.getElem?_eq_some_iff.1 HA10.out.1).1).trans HA10.out.1, HA10.out.2.below (Rg.bel_new _ _), by have := (Array.getElem?_eq_some_iff.1 HA10.out.1).1; omega, HA10.out.2.lt, fun k hk => by have := (HA10.out.2.mi.1.lt k hk).2; omega, fun k hk => by have := (HA10.out.2.mi.2.lt k hk).2; omega⟩
      go_upto_region 17 with fail
      generalize w11.alloc (.cells #[.int .i64 T.1, .int .i64 T.2.1, .int .i64 T.2.2.1, .int .i64 T.2.2.2] 35) = w12 at HA12 ⊢
      generalize w11.heap.size = bL at HA12 ⊢
      clear HA10 a0 a1 a2 a3
      obtain ⟨p1, pf1⟩ := Rg.blk_cell HA12.out.1 1 (x := .int .i64 T.2.1) rfl
      have HL13 : Hid ((w12.setCell ⟨bL, 1, none⟩ (.int .i64 (T.2.1 + 1))).heap[bL]? = some (.cells #[.int .i64 T.1, .int .i64 (T.2.1 + 1), .int .i64 T.2.2.1, .int .i64 T.2.2.2] 35 (0, 0)) ∧ (w12.setCell ⟨bL, 1, none⟩ (.int .i64 (T.2.1 + 1))).heap[bA]? = some (.cells #[.int .i64 T.1, .int .i64 T.2.1, .int .i64 T.2.2.1, .int .i64 T.2.2.2] 35 (0, 0)) ∧ Cw w (w12.setCell ⟨bL, 1, none⟩ (.int .i64 (T.2.1 + 1))) bC (wst id m k l nm ac []) (.slice n0a 0 n0k) (.slice n1a ac.length n1k)) := ⟨Rg.blk_set HA12.out.1 _ _, (Rg.blk_far HA12.out.2.2.2.1 _ _).trans HA12.out.2.1, cw_set HA12.out.2.2.1 HA12.out.2.2.2.2.1 HA12.out.2.2.2.2.2.1 HA12.out.2.2.2.2.2.2⟩
      go_upto_region 18 with fail
      generalize w12.setCell ⟨bL, 1, none⟩ (.int .i64 (T.2.1 + 1)) = w13 at HL13 ⊢
      clear HA12 p1 pf1 hT2 hT3
      obtain ⟨U, HU⟩ : ∃ U : An, Hid (U = (T.1, T.2.1 + 1, T.2.2.1, T.2.2.2)) := ⟨_, rfl⟩
      have HOK : Hid (Ok id m k l nm ac T U) := ⟨HID.out, by omega, HAC.out, tk_ok HT.out, by rw [HU.out]; exact tk_up HT.out, by rw [HU.out]; exact tk_ne T, HRQ.out⟩
      have HB13 : Hid (w13.heap[bL]? = some (.cells #[.int .i64 U.1, .int .i64 U.2.1, .int .i64 U.2.2.1, .int .i64 U.2.2.2] 35 (0, 0)) ∧ w13.heap[bA]? = some (.cells #[.int .i64 T.1, .int .i64 T.2.1, .int .i64 T.2.2.1, .int .i64 T.2.2.2] 35 (0, 0)) ∧ Cw w w13 bC (wst id m k l nm ac []) (.slice n0a 0 n0k) (.slice n1a ac.length n1k)) := by
        show _ ∧ _ ∧ _
        rw [HU.out]
        exact HL13.out
      clear HL13 HT HU
      go_wp2_with fail
      go_loopw [15] (fun i wr => ∃ j : Nat, j ≤ 4 ∧ i = .int .i64 j ∧ Hid (∃ vr va, Cw w wr bC (cst id m k l nm ac T U j) vr va ∧ wr.heap[bL]? = some (.cells #[.int .i64 U.1, .int .i64 U.2.1, .int .i64 U.2.2.1, .int .i64 U.2.2.2] 35 (0, 0)) ∧ wr.heap[bA]? = some (.cells #[.int .i64 T.1, .int .i64 T.2.1, .int .i64 T.2.2.1, .int .i64 T.2.2.2] 35 (0, 0)) ∧ bL ≠ bC ∧ bA ≠ bC)) (fun i _ => 4 - (intOf i).toNat)
      case atStart => exact ⟨0, by omega, rfl, ⟨_, _, HB13.out.2.2, HB13.out.1, HB13.out.2.1, ne_kind HB13.out.1 HB13.out.2.2.bx, ne_kind HB13.out.2.1 HB13.out.2.2.bx⟩⟩
      case round =>
        clear HB13
        rename World => wk
        obtain ⟨j, hj, rfl, HJ⟩ := hrel
        obtain ⟨vr, va, hcw, hbl, hba, hnl, hna⟩ := HJ.out
        have HJC : Hid (Cw w wk bC (cst id m k l nm ac T U j) vr va ∧ wk.heap[bL]? = some (.cells #[.int .i64 U.1, .int .i64 U.2.1, .int .i64 U.2.2.1, .int .i64 U.2.2.2] 35 (0, 0)) ∧ wk.heap[bA]? = some (.cells #[.int .i64 T.1, .int .i64 T.2.1, .int .i64 T.2.2.1, .int .i64 T.2.2.2] 35 (0, 0)) ∧ bL ≠ bC ∧ bA ≠ bC) := ⟨hcw, hbl, hba, hnl, hna⟩
        clear HJ hcw hbl hba hnl hna
        by_cases hlt : j < 4
        · have hltI : (j : Int) < 4 := by omega
          have e0 : cst id m k l nm ac T U j = wst id m k l nm ac (rl id (m + 1) T U j) := if_pos hlt
          have hjl := rl_len id (m + 1) T U j
          obtain ⟨j0a, j0k, rfl⟩ : ∃ a c, vr = .slice a j c := by
            have h := HJC.out.1.mi.1.slice
            rw [e0] at h
            rw [show (wst id m k l nm ac (rl id (m + 1) T U j)).re = rl id (m + 1) T U j from rfl, hjl] at h
            exact h
          obtain ⟨j1a, j1k, rfl⟩ : ∃ a c, va = .slice a ac.length c := by
            have h := HJC.out.1.mi.2.slice
            rw [e0] at h
            exact h
          have HBJ : Hid (∀ W, Below wk.heap.size wk W → W.heap[bC]? = some (.cells #[.int .i64 (id : Int), .int .i64 s, .bool true, .int .i64 (id : Int), .int .i64 s, .int .i64 k, .int .i64 l, .string nm, .slice j0a j j0k, .slice j1a ac.length j1k] 28 (0, 0)) ∧ W.heap[bL]? = some (.cells #[.int .i64 U.1, .int .i64 U.2.1, .int .i64 U.2.2.1, .int .i64 U.2.2.2] 35 (0, 0)) ∧ W.heap[bA]? = some (.cells #[.int .i64 T.1, .int .i64 T.2.1, .int .i64 T.2.2.1, .int .i64 T.2.2.2] 35 (0, 0)) ∧ Cw w W bC (cst id m k l nm ac T U j) (.slice j0a j j0k) (.slice j1a ac.length j1k)) := fun W hW => by
            have h := (HJC.out.1.below hW)
            have h2 := h.bx
            rw [e0] at h2
            rw [← HS.out]
            exact ⟨h2, (hW.block _ (Array.getElem?_eq_some_iff.1 HJC.out.2.1).1).trans HJC.out.2.1, (hW.block _ (Array.getElem?_eq_some_iff.1 HJC.out.2.2.1).1).trans HJC.out.2.2.1, h⟩
          have HNE : Hid (bL ≠ bC ∧ bA ≠ bC) := HJC.out.2.2.2
          clear hjl e0 HJC
          by_cases h2 : j < 2
          · have h2I : (j : Int) < 2 := by omega
            have hnj : (nod j : Int) ≤ 3 := by have := nod_le j; omega
            have HSA : Hid (sai T U j = U) := sai_lie T U h2
            obtain ⟨x, HXX⟩ : ∃ x, Hid (rp id (m + 1) (nod j) (sai T U j) = x) := ⟨_, rfl⟩
            have HMK : Hid (∀ W, Below w.heap.size w W → Calls Tryd.prog 9 #[.int .i64 (nod j : Int), .int .i64 (id : Int), .int .i64 s, .agg #[.int .i64 U.1, .int .i64 U.2.1, .int .i64 U.2.2.1, .int .i64 U.2.2.2]] W fun e w' => e = .returned (.tuple #[.agg #[.int .i64 x.nd, .int .i64 x.cl, .int .i64 x.st, .int .i64 x.kd, .int .i64 x.tk, .int .i64 x.hd, .int .i64 x.ex, .string x.mc], .int .i64 0]) ∧ Below W.heap.size W w') := fun W hW => by
              have h := implMakeReply_any (nod j : Int) (id : Int) ((m + 1 : Nat) : Int) U.1 U.2.1 U.2.2.1 U.2.2.2 W (HKT.out W hW).1 (HKT.out W hW).2
              have hoA : okA U = true := by rw [← HSA.out]; exact sai_ok HOK.out.T_ HOK.out.U_ j
              have e : mkR (nod j : Int) (id : Int) ((m + 1 : Nat) : Int) U.1 U.2.1 U.2.2.1 U.2.2.2 = x := by rw [← HXX.out, HSA.out]; rfl
              rw [(rp_eq (id := id) (st := m + 1) (k := nod j) (a := U) HOK.out.id_ (by omega) (by omega) (by have := nod_le j; omega) hoA).2, e, HS.out] at h
              exact h
            have HTK : Hid (∀ W, Cw w W bC (cst id m k l nm ac T U j) (.slice j0a j j0k) (.slice j1a ac.length j1k) → Calls Tryd.prog 10 #[.int .i64 4, .agg #[.int .i64 (id : Int), .int .i64 s, .bool true, .int .i64 (id : Int), .int .i64 s, .int .i64 k, .int .i64 l, .string nm, .slice j0a j j0k, .slice j1a ac.length j1k], .agg #[.int .i64 x.nd, .int .i64 x.cl, .int .i64 x.st, .int .i64 x.kd, .int .i64 x.tk, .int .i64 x.hd, .int .i64 x.ex, .string x.mc]] W fun e w' => ∃ x0a x0k x1a x1k, e = .returned (.tuple #[.agg #[.int .i64 (id : Int), .int .i64 s, .bool true, .int .i64 (id : Int), .int .i64 s, .int .i64 k, .int .i64 l, .string nm, .slice x0a (j + 1) x0k, .slice x1a ac.length x1k], .int .i64 0]) ∧ Hid (Mine w' W.heap.size (cst id m k l nm ac T U (j + 1)) (.slice x0a (j + 1) x0k) (.slice x1a ac.length x1k)) ∧ Below W.heap.size W w') := fun W hW => by
              have h := implClientTake_any 4 (cst id m k l nm ac T U j) (.slice j0a j j0k) (.slice j1a ac.length j1k) (rp id (m + 1) (nod j) (sai T U j)) W hW.mi.has (cst_tc HOK.out (by omega)) (HKT.out W hW.be).1 (HKT.out W hW.be).2
              rw [(cst_take HOK.out hlt).1, (cst_take HOK.out hlt).2, HXX.out] at h
              have e0 : cst id m k l nm ac T U j = wst id m k l nm ac (rl id (m + 1) T U j) := if_pos hlt
              have e1 : cst id m k l nm ac T U (j + 1) = wst id m k l nm ac (rl id (m + 1) T U (j + 1)) := if_pos (by omega)
              rw [e1] at h ⊢
              rw [e0] at h
              rw [← HS.out]
              refine h.mono ?_
              rintro e w' ⟨vr', va', rfl, hm', hb⟩
              obtain ⟨x0a, x0k, rfl⟩ : ∃ a c, vr' = .slice a (j + 1) c := by
                have q := hm'.out.1.slice
                rw [show (wst id m k l nm ac (rl id (m + 1) T U (j + 1))).re = rl id (m + 1) T U (j + 1) from rfl, rl_len] at q
                exact q
              obtain ⟨x1a, x1k, rfl⟩ : ∃ a c, va' = .slice a ac.length c := by
                have q := hm'.out.2.slice
                exact q
              exact ⟨x0a, x0k, x1a, x1k, rfl, hm', hb⟩
            have HOX : Hid (∀ W x0a x0k x1a x1k, Mine W (bC + 1) (cst id m k l nm ac T U (j + 1)) (.slice x0a (j + 1) x0k) (.slice x1a ac.length x1k) → Below w.heap.size w W → Calls Tryd.prog 11 #[.int .i64 4, .agg #[.int .i64 (id : Int), .int .i64 s, .bool true, .int .i64 (id : Int), .int .i64 s, .int .i64 k, .int .i64 l, .string nm, .slice x0a (j + 1) x0k, .slice x1a ac.length x1k]] W fun e w' => e = .returned (.bool true) ∧ Below W.heap.size W w') := fun W x0a x0k x1a x1k hmn hW => by
              have h := implClientOK_any 4 (cst id m k l nm ac T U (j + 1)) (.slice x0a (j + 1) x0k) (.slice x1a ac.length x1k) W hmn.has (cst_tc HOK.out (by omega)) (HKT.out W hW).1 (HKT.out W hW).2
              rw [cst_ok HOK.out (by omega)] at h
              have e1 : cst id m k l nm ac T U (j + 1) = wst id m k l nm ac (rl id (m + 1) T U (j + 1)) := if_pos (by omega)
              rw [e1] at h
              rw [← HS.out]
              exact h
            have hnd : ∀ W : World, (W.alloc (.cells #[.int .i64 3, .int .i64 3, .int .i64 1, .int .i64 2] 3)).cell? ⟨W.heap.size, j, none⟩ = some (.int .i64 (nod j : Int)) := fun W => nod_cell W hlt
            have B14 : Hid (Below wk.heap.size wk (wk.alloc (.cells #[.int .i64 3, .int .i64 3, .int .i64 1, .int .i64 2] 3))) := Rg.bel_new _ _
            have hnw := hnd wk
            clear hnd
            go_upto_region 22 with fail
            generalize wk.alloc (.cells #[.int .i64 3, .int .i64 3, .int .i64 1, .int .i64 2] 3) = w14 at B14 hnw ⊢
            clear hnw
            obtain ⟨N, HN⟩ : ∃ N : Int, Hid ((nod j : Int) = N) := ⟨_, rfl⟩
            rw [HN.out] at HMK
            rw [HN.out]
            clear hnj
            have a0 := (Rg.blk_cell (HBJ.out _ B14.out).2.2.1 0 (x := .int .i64 T.1) rfl).1
            have a1 := (Rg.blk_cell (HBJ.out _ B14.out).2.2.1 1 (x := .int .i64 T.2.1) rfl).1
            have a2 := (Rg.blk_cell (HBJ.out _ B14.out).2.2.1 2 (x := .int .i64 T.2.2.1) rfl).1
            have a3 := (Rg.blk_cell (HBJ.out _ B14.out).2.2.1 3 (x := .int .i64 T.2.2.2) rfl).1
            have HA15 : Hid ((w14.alloc (.cells #[.int .i64 T.1, .int .i64 T.2.1, .int .i64 T.2.2.1, .int .i64 T.2.2.2] 35)).heap[w14.heap.size]? = some (.cells #[.int .i64 T.1, .int .i64 T.2.1, .int .i64 T.2.2.1, .int .i64 T.2.2.2] 35 (0, 0)) ∧ Below wk.heap.size wk (w14.alloc (.cells #[.int .i64 T.1, .int .i64 T.2.1, .int .i64 T.2.2.1, .int .i64 T.2.2.2] 35)) ∧ wk.heap.size ≤ w14.heap.size) := ⟨heap_alloc_new w14 _, B14.out.trans ((Rg.bel_new _ _).mono B14.out.size), B14.out.size⟩
            go_upto_region 23 with fail
            generalize w14.alloc (.cells #[.int .i64 T.1, .int .i64 T.2.1, .int .i64 T.2.2.1, .int .i64 T.2.2.2] 35) = w15 at HA15 ⊢
            generalize w14.heap.size = bS at HA15 ⊢
            clear a0 a1 a2 a3 B14
            have a0 := (Rg.blk_cell (HBJ.out _ HA15.out.2.1).2.1 0 (x := .int .i64 U.1) rfl).1
            have a1 := (Rg.blk_cell (HBJ.out _ HA15.out.2.1).2.1 1 (x := .int .i64 U.2.1) rfl).1
            have a2 := (Rg.blk_cell (HBJ.out _ HA15.out.2.1).2.1 2 (x := .int .i64 U.2.2.1) rfl).1
            have a3 := (Rg.blk_cell (HBJ.out _ HA15.out.2.1).2.1 3 (x := .int .i64 U.2.2.2) rfl).1
            obtain ⟨z0, zf0⟩ := Rg.blk_cell HA15.out.1 0 (x := .int .i64 T.1) rfl
            obtain ⟨z1, zf1⟩ := Rg.blk_cell HA15.out.1 1 (x := .int .i64 T.2.1) rfl
            obtain ⟨z2, zf2⟩ := Rg.blk_cell HA15.out.1 2 (x := .int .i64 T.2.2.1) rfl
            obtain ⟨z3, zf3⟩ := Rg.blk_cell HA15.out.1 3 (x := .int .i64 T.2.2.2) rfl
            have HA16 : Hid (((((w15.setCell ⟨bS, 0, none⟩ (.int .i64 U.1)).setCell ⟨bS, 1, none⟩ (.int .i64 U.2.1)).setCell ⟨bS, 2, none⟩ (.int .i64 U.2.2.1)).setCell ⟨bS, 3, none⟩ (.int .i64 U.2.2.2)).heap[bS]? = some (.cells #[.int .i64 U.1, .int .i64 U.2.1, .int .i64 U.2.2.1, .int .i64 U.2.2.2] 35 (0, 0)) ∧ Below wk.heap.size wk ((((w15.setCell ⟨bS, 0, none⟩ (.int .i64 U.1)).setCell ⟨bS, 1, none⟩ (.int .i64 U.2.1)).setCell ⟨bS, 2, none⟩ (.int .i64 U.2.2.1)).setCell ⟨bS, 3, none⟩ (.int .i64 U.2.2.2))) := ⟨(Rg.blk_set (Rg.blk_set (Rg.blk_set (Rg.blk_set HA15.out.1 _ _) _ _) _ _) _ _), (Below.setCell (Below.setCell (Below.setCell (Below.setCell HA15.out.2.1 (p := ⟨bS, 0, none⟩) HA15.out.2.2 (.int .i64 U.1)) (p := ⟨bS, 1, none⟩) HA15.out.2.2 (.int .i64 U.2.1)) (p := ⟨bS, 2, none⟩) HA15.out.2.2 (.int .i64 U.2.2.1)) (p := ⟨bS, 3, none⟩) HA15.out.2.2 (.int .i64 U.2.2.2))⟩
            go_upto_region 25 with fail
            generalize ((((w15.setCell ⟨bS, 0, none⟩ (.int .i64 U.1)).setCell ⟨bS, 1, none⟩ (.int .i64 U.2.1)).setCell ⟨bS, 2, none⟩ (.int .i64 U.2.2.1)).setCell ⟨bS, 3, none⟩ (.int .i64 U.2.2.2)) = w16 at HA16 ⊢
            clear a0 a1 a2 a3 z0 z1 z2 z3 zf0 zf1 zf2 zf3 HA15
            have a0 := (Rg.blk_cell HA16.out.1 0 (x := .int .i64 U.1) rfl).1
            have a1 := (Rg.blk_cell HA16.out.1 1 (x := .int .i64 U.2.1) rfl).1
            have a2 := (Rg.blk_cell HA16.out.1 2 (x := .int .i64 U.2.2.1) rfl).1
            have a3 := (Rg.blk_cell HA16.out.1 3 (x := .int .i64 U.2.2.2) rfl).1
            have c0 := (Rg.blk_cell (HBJ.out _ HA16.out.2).1 0 (x := .int .i64 (id : Int)) rfl).1
            have c1 := (Rg.blk_cell (HBJ.out _ HA16.out.2).1 1 (x := .int .i64 s) rfl).1
            have c2 := (Rg.blk_cell (HBJ.out _ HA16.out.2).1 2 (x := .bool true) rfl).1
            have c3 := (Rg.blk_cell (HBJ.out _ HA16.out.2).1 3 (x := .int .i64 (id : Int)) rfl).1
            have c4 := (Rg.blk_cell (HBJ.out _ HA16.out.2).1 4 (x := .int .i64 s) rfl).1
            have c5 := (Rg.blk_cell (HBJ.out _ HA16.out.2).1 5 (x := .int .i64 k) rfl).1
            have c6 := (Rg.blk_cell (HBJ.out _ HA16.out.2).1 6 (x := .int .i64 l) rfl).1
            have c7 := (Rg.blk_cell (HBJ.out _ HA16.out.2).1 7 (x := .string nm) rfl).1
            have c8 := (Rg.blk_cell (HBJ.out _ HA16.out.2).1 8 (x := .slice j0a j j0k) rfl).1
            have c9 := (Rg.blk_cell (HBJ.out _ HA16.out.2).1 9 (x := .slice j1a ac.length j1k) rfl).1
            go_wp2_with fail
            refine (HMK.out _ (HBJ.out _ HA16.out.2).2.2.2.be).mono ?_
            rintro e w17 ⟨rfl, b17⟩
            have HA18 : Hid ((w17.alloc (.cells #[.int .i64 x.nd, .int .i64 x.cl, .int .i64 x.st, .int .i64 x.kd, .int .i64 x.tk, .int .i64 x.hd, .int .i64 x.ex, .string x.mc] 39)).heap[w17.heap.size]? = some (.cells #[.int .i64 x.nd, .int .i64 x.cl, .int .i64 x.st, .int .i64 x.kd, .int .i64 x.tk, .int .i64 x.hd, .int .i64 x.ex, .string x.mc] 39 (0, 0)) ∧ Below wk.heap.size wk (w17.alloc (.cells #[.int .i64 x.nd, .int .i64 x.cl, .int .i64 x.st, .int .i64 x.kd, .int .i64 x.tk, .int .i64 x.hd, .int .i64 x.ex, .string x.mc] 39))) := ⟨heap_alloc_new w17 _, (HA16.out.2.trans (b17.mono HA16.out.2.size)).trans ((Rg.bel_new w17 _).mono (Nat.le_trans HA16.out.2.size b17.size))⟩
            clear b17 a0 a1 a2 a3 c0 c1 c2 c3 c4 c5 c6 c7 c8 c9
            go_upto_region 26 with fail
            generalize w17.alloc (.cells #[.int .i64 x.nd, .int .i64 x.cl, .int .i64 x.st, .int .i64 x.kd, .int .i64 x.tk, .int .i64 x.hd, .int .i64 x.ex, .string x.mc] 39) = w18 at HA18 ⊢
            generalize w17.heap.size = bP at HA18 ⊢
            clear HA16 HMK
            have p0 := (Rg.blk_cell HA18.out.1 0 (x := .int .i64 x.nd) rfl).1
            have p1 := (Rg.blk_cell HA18.out.1 1 (x := .int .i64 x.cl) rfl).1
            have p2 := (Rg.blk_cell HA18.out.1 2 (x := .int .i64 x.st) rfl).1
            have p3 := (Rg.blk_cell HA18.out.1 3 (x := .int .i64 x.kd) rfl).1
            have p4 := (Rg.blk_cell HA18.out.1 4 (x := .int .i64 x.tk) rfl).1
            have p5 := (Rg.blk_cell HA18.out.1 5 (x := .int .i64 x.hd) rfl).1
            have p6 := (Rg.blk_cell HA18.out.1 6 (x := .int .i64 x.ex) rfl).1
            have p7 := (Rg.blk_cell HA18.out.1 7 (x := .string x.mc) rfl).1
            have c0 := (Rg.blk_cell (HBJ.out _ HA18.out.2).1 0 (x := .int .i64 (id : Int)) rfl).1
            have c1 := (Rg.blk_cell (HBJ.out _ HA18.out.2).1 1 (x := .int .i64 s) rfl).1
            have c2 := (Rg.blk_cell (HBJ.out _ HA18.out.2).1 2 (x := .bool true) rfl).1
            have c3 := (Rg.blk_cell (HBJ.out _ HA18.out.2).1 3 (x := .int .i64 (id : Int)) rfl).1
            have c4 := (Rg.blk_cell (HBJ.out _ HA18.out.2).1 4 (x := .int .i64 s) rfl).1
            have c5 := (Rg.blk_cell (HBJ.out _ HA18.out.2).1 5 (x := .int .i64 k) rfl).1
            have c6 := (Rg.blk_cell (HBJ.out _ HA18.out.2).1 6 (x := .int .i64 l) rfl).1
            have c7 := (Rg.blk_cell (HBJ.out _ HA18.out.2).1 7 (x := .string nm) rfl).1
            have c8 := (Rg.blk_cell (HBJ.out _ HA18.out.2).1 8 (x := .slice j0a j j0k) rfl).1
            have c9 := (Rg.blk_cell (HBJ.out _ HA18.out.2).1 9 (x := .slice j1a ac.length j1k) rfl).1
            go_wp2_with fail
            refine (HTK.out _ (HBJ.out _ HA18.out.2).2.2.2).mono ?_
            rintro e w19 ⟨x0a, x0k, x1a, x1k, rfl, HMX, b19⟩
            have HA20 : Hid (∀ W, Below (w19.alloc (.cells #[.int .i64 (id : Int), .int .i64 s, .bool true, .int .i64 (id : Int), .int .i64 s, .int .i64 k, .int .i64 l, .string nm, .slice x0a (j + 1) x0k, .slice x1a ac.length x1k] 28)).heap.size (w19.alloc (.cells #[.int .i64 (id : Int), .int .i64 s, .bool true, .int .i64 (id : Int), .int .i64 s, .int .i64 k, .int .i64 l, .string nm, .slice x0a (j + 1) x0k, .slice x1a ac.length x1k] 28)) W → W.heap[w19.heap.size]? = some (.cells #[.int .i64 (id : Int), .int .i64 s, .bool true, .int .i64 (id : Int), .int .i64 s, .int .i64 k, .int .i64 l, .string nm, .slice x0a (j + 1) x0k, .slice x1a ac.length x1k] 28 (0, 0)) ∧ Mine W (bC + 1) (cst id m k l nm ac T U (j + 1)) (.slice x0a (j + 1) x0k) (.slice x1a ac.length x1k) ∧ Below wk.heap.size wk W) := fun W hW => by
              have hn := (Rg.bel_new w19 (.cells #[.int .i64 (id : Int), .int .i64 s, .bool true, .int .i64 (id : Int), .int .i64 s, .int .i64 k, .int .i64 l, .string nm, .slice x0a (j + 1) x0k, .slice x1a ac.length x1k] 28)).trans (hW.mono (by simp))
              have h0 := HA18.out.2.trans ((b19.trans (hn.mono b19.size)).mono HA18.out.2.size)
              exact ⟨(hW.block w19.heap.size (by simp)).trans (heap_alloc_new w19 _), (HMX.out.mono (HBJ.out _ HA18.out.2).2.2.2.lt).below hn, h0⟩
            clear b19 p0 p1 p2 p3 p4 p5 p6 p7 c0 c1 c2 c3 c4 c5 c6 c7 c8 c9 HMX HTK
            go_upto_region 27 with fail
            generalize w19.alloc (.cells #[.int .i64 (id : Int), .int .i64 s, .bool true, .int .i64 (id : Int), .int .i64 s, .int .i64 k, .int .i64 l, .string nm, .slice x0a (j + 1) x0k, .slice x1a ac.length x1k] 28) = w20 at HA20 ⊢
            generalize w19.heap.size = bX at HA20 ⊢
            clear HA18
            have hbx := (HA20.out _ (Below.refl _ _)).1
            have c0 := (Rg.blk_cell hbx 0 (x := .int .i64 (id : Int)) rfl).1
            have c1 := (Rg.blk_cell hbx 1 (x := .int .i64 s) rfl).1
            have c2 := (Rg.blk_cell hbx 2 (x := .bool true) rfl).1
            have c3 := (Rg.blk_cell hbx 3 (x := .int .i64 (id : Int)) rfl).1
            have c4 := (Rg.blk_cell hbx 4 (x := .int .i64 s) rfl).1
            have c5 := (Rg.blk_cell hbx 5 (x := .int .i64 k) rfl).1
            have c6 := (Rg.blk_cell hbx 6 (x := .int .i64 l) rfl).1
            have c7 := (Rg.blk_cell hbx 7 (x := .string nm) rfl).1
            have c8 := (Rg.blk_cell hbx 8 (x := .slice x0a (j + 1) x0k) rfl).1
            have c9 := (Rg.blk_cell hbx 9 (x := .slice x1a ac.length x1k) rfl).1
            have h3I : (j : Int) < 3 := by omega
            go_wp2_with (first | (go_at_call 11; refine (HOX.out _ x0a x0k x1a x1k (HA20.out _ (Below.refl _ _)).2.1 (HBJ.out _ (HA20.out _ (Below.refl _ _)).2.2).2.2.2.be).mono ?_; rintro e w21 ⟨rfl, b21⟩; have B21 : Hid (Below w20.heap.size w20 w21) := b21; clear b21 hbx c0 c1 c2 c3 c4 c5 c6 c7 c8 c9; have hbx := (HA20.out _ B21.out).1; have c0 := (Rg.blk_cell hbx 0 (x := .int .i64 (id : Int)) rfl).1; have c1 := (Rg.blk_cell hbx 1 (x := .int .i64 s) rfl).1; have c2 := (Rg.blk_cell hbx 2 (x := .bool true) rfl).1; have c3 := (Rg.blk_cell hbx 3 (x := .int .i64 (id : Int)) rfl).1; have c4 := (Rg.blk_cell hbx 4 (x := .int .i64 s) rfl).1; have c5 := (Rg.blk_cell hbx 5 (x := .int .i64 k) rfl).1; have c6 := (Rg.blk_cell hbx 6 (x := .int .i64 l) rfl).1; have c7 := (Rg.blk_cell hbx 7 (x := .string nm) rfl).1; have c8 := (Rg.blk_cell hbx 8 (x := .slice x0a (j + 1) x0k) rfl).1; have c9 := (Rg.blk_cell hbx 9 (x := .slice x1a ac.length x1k) rfl).1;  have hbc := (HBJ.out _ (HA20.out _ B21.out).2.2).1; obtain ⟨z0, zf0⟩ := Rg.blk_cell hbc 0 (x := .int .i64 (id : Int)) rfl; obtain ⟨z1, zf1⟩ := Rg.blk_cell hbc 1 (x := .int .i64 s) rfl; obtain ⟨z2, zf2⟩ := Rg.blk_cell hbc 2 (x := .bool true) rfl; obtain ⟨z3, zf3⟩ := Rg.blk_cell hbc 3 (x := .int .i64 (id : Int)) rfl; obtain ⟨z4, zf4⟩ := Rg.blk_cell hbc 4 (x := .int .i64 s) rfl; obtain ⟨z5, zf5⟩ := Rg.blk_cell hbc 5 (x := .int .i64 k) rfl; obtain ⟨z6, zf6⟩ := Rg.blk_cell hbc 6 (x := .int .i64 l) rfl; obtain ⟨z7, zf7⟩ := Rg.blk_cell hbc 7 (x := .string nm) rfl; obtain ⟨z8, zf8⟩ := Rg.blk_cell hbc 8 (x := .slice j0a j j0k) rfl; obtain ⟨z9, zf9⟩ := Rg.blk_cell hbc 9 (x := .slice j1a ac.length j1k) rfl))
            have hfin := (HBJ.out _ (HA20.out _ B21.out).2.2).2.2.2.store (HA20.out _ B21.out).2.1
            have e1 : cst id m k l nm ac T U (j + 1) = wst id m k l nm ac (rl id (m + 1) T U (j + 1)) := if_pos (by omega)
            refine ⟨⟨j + 1, by omega, by go_num, ⟨.slice x0a (j + 1) x0k, .slice x1a ac.length x1k, ?_, ?_, ?_, HNE.out.1, HNE.out.2⟩⟩, by simp [intOf]; omega⟩
            · rw [e1] at hfin ⊢
              rw [← HS.out]
              exact hfin
            · exact (set10_far HNE.out.1).trans (HBJ.out _ (HA20.out _ B21.out).2.2).2.1
            · exact (set10_far HNE.out.2).trans (HBJ.out _ (HA20.out _ B21.out).2.2).2.2.1
          · have h2I : ¬ (j : Int) < 2 := by omega
            by_cases h3 : j < 3
            · have hnj : (nod j : Int) ≤ 3 := by have := nod_le j; omega
              have HSA : Hid (sai T U j = T) := sai_true T U h2
              obtain ⟨x, HXX⟩ : ∃ x, Hid (rp id (m + 1) (nod j) (sai T U j) = x) := ⟨_, rfl⟩
              have HMK : Hid (∀ W, Below w.heap.size w W → Calls Tryd.prog 9 #[.int .i64 (nod j : Int), .int .i64 (id : Int), .int .i64 s, .agg #[.int .i64 T.1, .int .i64 T.2.1, .int .i64 T.2.2.1, .int .i64 T.2.2.2]] W fun e w' => e = .returned (.tuple #[.agg #[.int .i64 x.nd, .int .i64 x.cl, .int .i64 x.st, .int .i64 x.kd, .int .i64 x.tk, .int .i64 x.hd, .int .i64 x.ex, .string x.mc], .int .i64 0]) ∧ Below W.heap.size W w') := fun W hW => by
                have h := implMakeReply_any (nod j : Int) (id : Int) ((m + 1 : Nat) : Int) T.1 T.2.1 T.2.2.1 T.2.2.2 W (HKT.out W hW).1 (HKT.out W hW).2
                have hoA : okA T = true := by rw [← HSA.out]; exact sai_ok HOK.out.T_ HOK.out.U_ j
                have e : mkR (nod j : Int) (id : Int) ((m + 1 : Nat) : Int) T.1 T.2.1 T.2.2.1 T.2.2.2 = x := by rw [← HXX.out, HSA.out]; rfl
                rw [(rp_eq (id := id) (st := m + 1) (k := nod j) (a := T) HOK.out.id_ (by omega) (by omega) (by have := nod_le j; omega) hoA).2, e, HS.out] at h
                exact h
              have HTK : Hid (∀ W, Cw w W bC (cst id m k l nm ac T U j) (.slice j0a j j0k) (.slice j1a ac.length j1k) → Calls Tryd.prog 10 #[.int .i64 4, .agg #[.int .i64 (id : Int), .int .i64 s, .bool true, .int .i64 (id : Int), .int .i64 s, .int .i64 k, .int .i64 l, .string nm, .slice j0a j j0k, .slice j1a ac.length j1k], .agg #[.int .i64 x.nd, .int .i64 x.cl, .int .i64 x.st, .int .i64 x.kd, .int .i64 x.tk, .int .i64 x.hd, .int .i64 x.ex, .string x.mc]] W fun e w' => ∃ x0a x0k x1a x1k, e = .returned (.tuple #[.agg #[.int .i64 (id : Int), .int .i64 s, .bool true, .int .i64 (id : Int), .int .i64 s, .int .i64 k, .int .i64 l, .string nm, .slice x0a (j + 1) x0k, .slice x1a ac.length x1k], .int .i64 0]) ∧ Hid (Mine w' W.heap.size (cst id m k l nm ac T U (j + 1)) (.slice x0a (j + 1) x0k) (.slice x1a ac.length x1k)) ∧ Below W.heap.size W w') := fun W hW => by
                have h := implClientTake_any 4 (cst id m k l nm ac T U j) (.slice j0a j j0k) (.slice j1a ac.length j1k) (rp id (m + 1) (nod j) (sai T U j)) W hW.mi.has (cst_tc HOK.out (by omega)) (HKT.out W hW.be).1 (HKT.out W hW.be).2
                rw [(cst_take HOK.out hlt).1, (cst_take HOK.out hlt).2, HXX.out] at h
                have e0 : cst id m k l nm ac T U j = wst id m k l nm ac (rl id (m + 1) T U j) := if_pos hlt
                have e1 : cst id m k l nm ac T U (j + 1) = wst id m k l nm ac (rl id (m + 1) T U (j + 1)) := if_pos (by omega)
                rw [e1] at h ⊢
                rw [e0] at h
                rw [← HS.out]
                refine h.mono ?_
                rintro e w' ⟨vr', va', rfl, hm', hb⟩
                obtain ⟨x0a, x0k, rfl⟩ : ∃ a c, vr' = .slice a (j + 1) c := by
                  have q := hm'.out.1.slice
                  rw [show (wst id m k l nm ac (rl id (m + 1) T U (j + 1))).re = rl id (m + 1) T U (j + 1) from rfl, rl_len] at q
                  exact q
                obtain ⟨x1a, x1k, rfl⟩ : ∃ a c, va' = .slice a ac.length c := by
                  have q := hm'.out.2.slice
                  exact q
                exact ⟨x0a, x0k, x1a, x1k, rfl, hm', hb⟩
              have HOX : Hid (∀ W x0a x0k x1a x1k, Mine W (bC + 1) (cst id m k l nm ac T U (j + 1)) (.slice x0a (j + 1) x0k) (.slice x1a ac.length x1k) → Below w.heap.size w W → Calls Tryd.prog 11 #[.int .i64 4, .agg #[.int .i64 (id : Int), .int .i64 s, .bool true, .int .i64 (id : Int), .int .i64 s, .int .i64 k, .int .i64 l, .string nm, .slice x0a (j + 1) x0k, .slice x1a ac.length x1k]] W fun e w' => e = .returned (.bool true) ∧ Below W.heap.size W w') := fun W x0a x0k x1a x1k hmn hW => by
                have h := implClientOK_any 4 (cst id m k l nm ac T U (j + 1)) (.slice x0a (j + 1) x0k) (.slice x1a ac.length x1k) W hmn.has (cst_tc HOK.out (by omega)) (HKT.out W hW).1 (HKT.out W hW).2
                rw [cst_ok HOK.out (by omega)] at h
                have e1 : cst id m k l nm ac T U (j + 1) = wst id m k l nm ac (rl id (m + 1) T U (j + 1)) := if_pos (by omega)
                rw [e1] at h
                rw [← HS.out]
                exact h
              have hnd : ∀ W : World, (W.alloc (.cells #[.int .i64 3, .int .i64 3, .int .i64 1, .int .i64 2] 3)).cell? ⟨W.heap.size, j, none⟩ = some (.int .i64 (nod j : Int)) := fun W => nod_cell W hlt
              have B14 : Hid (Below wk.heap.size wk (wk.alloc (.cells #[.int .i64 3, .int .i64 3, .int .i64 1, .int .i64 2] 3))) := Rg.bel_new _ _
              have hnw := hnd wk
              clear hnd
              go_upto_region 22 with fail
              generalize wk.alloc (.cells #[.int .i64 3, .int .i64 3, .int .i64 1, .int .i64 2] 3) = w14 at B14 hnw ⊢
              clear hnw
              obtain ⟨N, HN⟩ : ∃ N : Int, Hid ((nod j : Int) = N) := ⟨_, rfl⟩
              rw [HN.out] at HMK
              rw [HN.out]
              clear hnj
              have a0 := (Rg.blk_cell (HBJ.out _ B14.out).2.2.1 0 (x := .int .i64 T.1) rfl).1
              have a1 := (Rg.blk_cell (HBJ.out _ B14.out).2.2.1 1 (x := .int .i64 T.2.1) rfl).1
              have a2 := (Rg.blk_cell (HBJ.out _ B14.out).2.2.1 2 (x := .int .i64 T.2.2.1) rfl).1
              have a3 := (Rg.blk_cell (HBJ.out _ B14.out).2.2.1 3 (x := .int .i64 T.2.2.2) rfl).1
              have HA15 : Hid ((w14.alloc (.cells #[.int .i64 T.1, .int .i64 T.2.1, .int .i64 T.2.2.1, .int .i64 T.2.2.2] 35)).heap[w14.heap.size]? = some (.cells #[.int .i64 T.1, .int .i64 T.2.1, .int .i64 T.2.2.1, .int .i64 T.2.2.2] 35 (0, 0)) ∧ Below wk.heap.size wk (w14.alloc (.cells #[.int .i64 T.1, .int .i64 T.2.1, .int .i64 T.2.2.1, .int .i64 T.2.2.2] 35)) ∧ wk.heap.size ≤ w14.heap.size) := ⟨heap_alloc_new w14 _, B14.out.trans ((Rg.bel_new _ _).mono B14.out.size), B14.out.size⟩
              go_upto_region 23 with fail
              generalize w14.alloc (.cells #[.int .i64 T.1, .int .i64 T.2.1, .int .i64 T.2.2.1, .int .i64 T.2.2.2] 35) = w15 at HA15 ⊢
              generalize w14.heap.size = bS at HA15 ⊢
              clear a0 a1 a2 a3 B14
              have HA16 : Hid (w15.heap[bS]? = some (.cells #[.int .i64 T.1, .int .i64 T.2.1, .int .i64 T.2.2.1, .int .i64 T.2.2.2] 35 (0, 0)) ∧ Below wk.heap.size wk w15) := ⟨HA15.out.1, HA15.out.2.1⟩
              go_upto_region 25 with fail
              obtain ⟨w16, rfl⟩ : ∃ w16, w16 = w15 := ⟨_, rfl⟩
              clear HA15
              have a0 := (Rg.blk_cell HA16.out.1 0 (x := .int .i64 T.1) rfl).1
              have a1 := (Rg.blk_cell HA16.out.1 1 (x := .int .i64 T.2.1) rfl).1
              have a2 := (Rg.blk_cell HA16.out.1 2 (x := .int .i64 T.2.2.1) rfl).1
              have a3 := (Rg.blk_cell HA16.out.1 3 (x := .int .i64 T.2.2.2) rfl).1
              have c0 := (Rg.blk_cell (HBJ.out _ HA16.out.2).1 0 (x := .int .i64 (id : Int)) rfl).1
              have c1 := (Rg.blk_cell (HBJ.out _ HA16.out.2).1 1 (x := .int .i64 s) rfl).1
              have c2 := (Rg.blk_cell (HBJ.out _ HA16.out.2).1 2 (x := .bool true) rfl).1
              have c3 := (Rg.blk_cell (HBJ.out _ HA16.out.2).1 3 (x := .int .i64 (id : Int)) rfl).1
              have c4 := (Rg.blk_cell (HBJ.out _ HA16.out.2).1 4 (x := .int .i64 s) rfl).1
              have c5 := (Rg.blk_cell (HBJ.out _ HA16.out.2).1 5 (x := .int .i64 k) rfl).1
              have c6 := (Rg.blk_cell (HBJ.out _ HA16.out.2).1 6 (x := .int .i64 l) rfl).1
              have c7 := (Rg.blk_cell (HBJ.out _ HA16.out.2).1 7 (x := .string nm) rfl).1
              have c8 := (Rg.blk_cell (HBJ.out _ HA16.out.2).1 8 (x := .slice j0a j j0k) rfl).1
              have c9 := (Rg.blk_cell (HBJ.out _ HA16.out.2).1 9 (x := .slice j1a ac.length j1k) rfl).1
              go_wp2_with fail
              refine (HMK.out _ (HBJ.out _ HA16.out.2).2.2.2.be).mono ?_
              rintro e w17 ⟨rfl, b17⟩
              have HA18 : Hid ((w17.alloc (.cells #[.int .i64 x.nd, .int .i64 x.cl, .int .i64 x.st, .int .i64 x.kd, .int .i64 x.tk, .int .i64 x.hd, .int .i64 x.ex, .string x.mc] 39)).heap[w17.heap.size]? = some (.cells #[.int .i64 x.nd, .int .i64 x.cl, .int .i64 x.st, .int .i64 x.kd, .int .i64 x.tk, .int .i64 x.hd, .int .i64 x.ex, .string x.mc] 39 (0, 0)) ∧ Below wk.heap.size wk (w17.alloc (.cells #[.int .i64 x.nd, .int .i64 x.cl, .int .i64 x.st, .int .i64 x.kd, .int .i64 x.tk, .int .i64 x.hd, .int .i64 x.ex, .string x.mc] 39))) := ⟨heap_alloc_new w17 _, (HA16.out.2.trans (b17.mono HA16.out.2.size)).trans ((Rg.bel_new w17 _).mono (Nat.le_trans HA16.out.2.size b17.size))⟩
              clear b17 a0 a1 a2 a3 c0 c1 c2 c3 c4 c5 c6 c7 c8 c9
              go_upto_region 26 with fail
              generalize w17.alloc (.cells #[.int .i64 x.nd, .int .i64 x.cl, .int .i64 x.st, .int .i64 x.kd, .int .i64 x.tk, .int .i64 x.hd, .int .i64 x.ex, .string x.mc] 39) = w18 at HA18 ⊢
              generalize w17.heap.size = bP at HA18 ⊢
              clear HA16 HMK
              have p0 := (Rg.blk_cell HA18.out.1 0 (x := .int .i64 x.nd) rfl).1
              have p1 := (Rg.blk_cell HA18.out.1 1 (x := .int .i64 x.cl) rfl).1
              have p2 := (Rg.blk_cell HA18.out.1 2 (x := .int .i64 x.st) rfl).1
              have p3 := (Rg.blk_cell HA18.out.1 3 (x := .int .i64 x.kd) rfl).1
              have p4 := (Rg.blk_cell HA18.out.1 4 (x := .int .i64 x.tk) rfl).1
              have p5 := (Rg.blk_cell HA18.out.1 5 (x := .int .i64 x.hd) rfl).1
              have p6 := (Rg.blk_cell HA18.out.1 6 (x := .int .i64 x.ex) rfl).1
              have p7 := (Rg.blk_cell HA18.out.1 7 (x := .string x.mc) rfl).1
              have c0 := (Rg.blk_cell (HBJ.out _ HA18.out.2).1 0 (x := .int .i64 (id : Int)) rfl).1
              have c1 := (Rg.blk_cell (HBJ.out _ HA18.out.2).1 1 (x := .int .i64 s) rfl).1
              have c2 := (Rg.blk_cell (HBJ.out _ HA18.out.2).1 2 (x := .bool true) rfl).1
              have c3 := (Rg.blk_cell (HBJ.out _ HA18.out.2).1 3 (x := .int .i64 (id : Int)) rfl).1
              have c4 := (Rg.blk_cell (HBJ.out _ HA18.out.2).1 4 (x := .int .i64 s) rfl).1
              have c5 := (Rg.blk_cell (HBJ.out _ HA18.out.2).1 5 (x := .int .i64 k) rfl).1
              have c6 := (Rg.blk_cell (HBJ.out _ HA18.out.2).1 6 (x := .int .i64 l) rfl).1
              have c7 := (Rg.blk_cell (HBJ.out _ HA18.out.2).1 7 (x := .string nm) rfl).1
              have c8 := (Rg.blk_cell (HBJ.out _ HA18.out.2).1 8 (x := .slice j0a j j0k) rfl).1
              have c9 := (Rg.blk_cell (HBJ.out _ HA18.out.2).1 9 (x := .slice j1a ac.length j1k) rfl).1
              go_wp2_with fail
              refine (HTK.out _ (HBJ.out _ HA18.out.2).2.2.2).mono ?_
              rintro e w19 ⟨x0a, x0k, x1a, x1k, rfl, HMX, b19⟩
              have HA20 : Hid (∀ W, Below (w19.alloc (.cells #[.int .i64 (id : Int), .int .i64 s, .bool true, .int .i64 (id : Int), .int .i64 s, .int .i64 k, .int .i64 l, .string nm, .slice x0a (j + 1) x0k, .slice x1a ac.length x1k] 28)).heap.size (w19.alloc (.cells #[.int .i64 (id : Int), .int .i64 s, .bool true, .int .i64 (id : Int), .int .i64 s, .int .i64 k, .int .i64 l, .string nm, .slice x0a (j + 1) x0k, .slice x1a ac.length x1k] 28)) W → W.heap[w19.heap.size]? = some (.cells #[.int .i64 (id : Int), .int .i64 s, .bool true, .int .i64 (id : Int), .int .i64 s, .int .i64 k, .int .i64 l, .string nm, .slice x0a (j + 1) x0k, .slice x1a ac.length x1k] 28 (0, 0)) ∧ Mine W (bC + 1) (cst id m k l nm ac T U (j + 1)) (.slice x0a (j + 1) x0k) (.slice x1a ac.length x1k) ∧ Below wk.heap.size wk W) := fun W hW => by
                have hn := (Rg.bel_new w19 (.cells #[.int .i64 (id : Int), .int .i64 s, .bool true, .int .i64 (id : Int), .int .i64 s, .int .i64 k, .int .i64 l, .string nm, .slice x0a (j + 1) x0k, .slice x1a ac.length x1k] 28)).trans (hW.mono (by simp))
                have h0 := HA18.out.2.trans ((b19.trans (hn.mono b19.size)).mono HA18.out.2.size)
                exact ⟨(hW.block w19.heap.size (by simp)).trans (heap_alloc_new w19 _), (HMX.out.mono (HBJ.out _ HA18.out.2).2.2.2.lt).below hn, h0⟩
              clear b19 p0 p1 p2 p3 p4 p5 p6 p7 c0 c1 c2 c3 c4 c5 c6 c7 c8 c9 HMX HTK
              go_upto_region 27 with fail
              generalize w19.alloc (.cells #[.int .i64 (id : Int), .int .i64 s, .bool true, .int .i64 (id : Int), .int .i64 s, .int .i64 k, .int .i64 l, .string nm, .slice x0a (j + 1) x0k, .slice x1a ac.length x1k] 28) = w20 at HA20 ⊢
              generalize w19.heap.size = bX at HA20 ⊢
              clear HA18
              have hbx := (HA20.out _ (Below.refl _ _)).1
              have c0 := (Rg.blk_cell hbx 0 (x := .int .i64 (id : Int)) rfl).1
              have c1 := (Rg.blk_cell hbx 1 (x := .int .i64 s) rfl).1
              have c2 := (Rg.blk_cell hbx 2 (x := .bool true) rfl).1
              have c3 := (Rg.blk_cell hbx 3 (x := .int .i64 (id : Int)) rfl).1
              have c4 := (Rg.blk_cell hbx 4 (x := .int .i64 s) rfl).1
              have c5 := (Rg.blk_cell hbx 5 (x := .int .i64 k) rfl).1
              have c6 := (Rg.blk_cell hbx 6 (x := .int .i64 l) rfl).1
              have c7 := (Rg.blk_cell hbx 7 (x := .string nm) rfl).1
              have c8 := (Rg.blk_cell hbx 8 (x := .slice x0a (j + 1) x0k) rfl).1
              have c9 := (Rg.blk_cell hbx 9 (x := .slice x1a ac.length x1k) rfl).1
              have h3I : (j : Int) < 3 := by omega
              go_wp2_with (first | (go_at_call 11; refine (HOX.out _ x0a x0k x1a x1k (HA20.out _ (Below.refl _ _)).2.1 (HBJ.out _ (HA20.out _ (Below.refl _ _)).2.2).2.2.2.be).mono ?_; rintro e w21 ⟨rfl, b21⟩; have B21 : Hid (Below w20.heap.size w20 w21) := b21; clear b21 hbx c0 c1 c2 c3 c4 c5 c6 c7 c8 c9; have hbx := (HA20.out _ B21.out).1; have c0 := (Rg.blk_cell hbx 0 (x := .int .i64 (id : Int)) rfl).1; have c1 := (Rg.blk_cell hbx 1 (x := .int .i64 s) rfl).1; have c2 := (Rg.blk_cell hbx 2 (x := .bool true) rfl).1; have c3 := (Rg.blk_cell hbx 3 (x := .int .i64 (id : Int)) rfl).1; have c4 := (Rg.blk_cell hbx 4 (x := .int .i64 s) rfl).1; have c5 := (Rg.blk_cell hbx 5 (x := .int .i64 k) rfl).1; have c6 := (Rg.blk_cell hbx 6 (x := .int .i64 l) rfl).1; have c7 := (Rg.blk_cell hbx 7 (x := .string nm) rfl).1; have c8 := (Rg.blk_cell hbx 8 (x := .slice x0a (j + 1) x0k) rfl).1; have c9 := (Rg.blk_cell hbx 9 (x := .slice x1a ac.length x1k) rfl).1;  have hbc := (HBJ.out _ (HA20.out _ B21.out).2.2).1; obtain ⟨z0, zf0⟩ := Rg.blk_cell hbc 0 (x := .int .i64 (id : Int)) rfl; obtain ⟨z1, zf1⟩ := Rg.blk_cell hbc 1 (x := .int .i64 s) rfl; obtain ⟨z2, zf2⟩ := Rg.blk_cell hbc 2 (x := .bool true) rfl; obtain ⟨z3, zf3⟩ := Rg.blk_cell hbc 3 (x := .int .i64 (id : Int)) rfl; obtain ⟨z4, zf4⟩ := Rg.blk_cell hbc 4 (x := .int .i64 s) rfl; obtain ⟨z5, zf5⟩ := Rg.blk_cell hbc 5 (x := .int .i64 k) rfl; obtain ⟨z6, zf6⟩ := Rg.blk_cell hbc 6 (x := .int .i64 l) rfl; obtain ⟨z7, zf7⟩ := Rg.blk_cell hbc 7 (x := .string nm) rfl; obtain ⟨z8, zf8⟩ := Rg.blk_cell hbc 8 (x := .slice j0a j j0k) rfl; obtain ⟨z9, zf9⟩ := Rg.blk_cell hbc 9 (x := .slice j1a ac.length j1k) rfl))
              have hfin := (HBJ.out _ (HA20.out _ B21.out).2.2).2.2.2.store (HA20.out _ B21.out).2.1
              have e1 : cst id m k l nm ac T U (j + 1) = wst id m k l nm ac (rl id (m + 1) T U (j + 1)) := if_pos (by omega)
              refine ⟨⟨j + 1, by omega, by go_num, ⟨.slice x0a (j + 1) x0k, .slice x1a ac.length x1k, ?_, ?_, ?_, HNE.out.1, HNE.out.2⟩⟩, by simp [intOf]; omega⟩
              · rw [e1] at hfin ⊢
                rw [← HS.out]
                exact hfin
              · exact (set10_far HNE.out.1).trans (HBJ.out _ (HA20.out _ B21.out).2.2).2.1
              · exact (set10_far HNE.out.2).trans (HBJ.out _ (HA20.out _ B21.out).2.2).2.2.1
            · have hnj : (nod j : Int) ≤ 3 := by have := nod_le j; omega
              have HSA : Hid (sai T U j = T) := sai_true T U h2
              obtain ⟨x, HXX⟩ : ∃ x, Hid (rp id (m + 1) (nod j) (sai T U j) = x) := ⟨_, rfl⟩
              have HMK : Hid (∀ W, Below w.heap.size w W → Calls Tryd.prog 9 #[.int .i64 (nod j : Int), .int .i64 (id : Int), .int .i64 s, .agg #[.int .i64 T.1, .int .i64 T.2.1, .int .i64 T.2.2.1, .int .i64 T.2.2.2]] W fun e w' => e = .returned (.tuple #[.agg #[.int .i64 x.nd, .int .i64 x.cl, .int .i64 x.st, .int .i64 x.kd, .int .i64 x.tk, .int .i64 x.hd, .int .i64 x.ex, .string x.mc], .int .i64 0]) ∧ Below W.heap.size W w') := fun W hW => by
                have h := implMakeReply_any (nod j : Int) (id : Int) ((m + 1 : Nat) : Int) T.1 T.2.1 T.2.2.1 T.2.2.2 W (HKT.out W hW).1 (HKT.out W hW).2
                have hoA : okA T = true := by rw [← HSA.out]; exact sai_ok HOK.out.T_ HOK.out.U_ j
                have e : mkR (nod j : Int) (id : Int) ((m + 1 : Nat) : Int) T.1 T.2.1 T.2.2.1 T.2.2.2 = x := by rw [← HXX.out, HSA.out]; rfl
                rw [(rp_eq (id := id) (st := m + 1) (k := nod j) (a := T) HOK.out.id_ (by omega) (by omega) (by have := nod_le j; omega) hoA).2, e, HS.out] at h
                exact h
              have HTK : Hid (∀ W, Cw w W bC (cst id m k l nm ac T U j) (.slice j0a j j0k) (.slice j1a ac.length j1k) → Calls Tryd.prog 10 #[.int .i64 4, .agg #[.int .i64 (id : Int), .int .i64 s, .bool true, .int .i64 (id : Int), .int .i64 s, .int .i64 k, .int .i64 l, .string nm, .slice j0a j j0k, .slice j1a ac.length j1k], .agg #[.int .i64 x.nd, .int .i64 x.cl, .int .i64 x.st, .int .i64 x.kd, .int .i64 x.tk, .int .i64 x.hd, .int .i64 x.ex, .string x.mc]] W fun e w' => ∃ x0a x0k x1a x1k, e = .returned (.tuple #[.agg #[.int .i64 (id : Int), .int .i64 s, .bool false, .int .i64 0, .int .i64 0, .int .i64 0, .int .i64 0, .string ⟨#[]⟩, .slice x0a 0 x0k, .slice x1a (ac.length + 1) x1k], .int .i64 0]) ∧ Hid (Mine w' W.heap.size (cst id m k l nm ac T U (j + 1)) (.slice x0a 0 x0k) (.slice x1a (ac.length + 1) x1k)) ∧ Below W.heap.size W w') := fun W hW => by
                have h := implClientTake_any 4 (cst id m k l nm ac T U j) (.slice j0a j j0k) (.slice j1a ac.length j1k) (rp id (m + 1) (nod j) (sai T U j)) W hW.mi.has (cst_tc HOK.out (by omega)) (HKT.out W hW.be).1 (HKT.out W hW.be).2
                rw [(cst_take HOK.out hlt).1, (cst_take HOK.out hlt).2, HXX.out] at h
                have e0 : cst id m k l nm ac T U j = wst id m k l nm ac (rl id (m + 1) T U j) := if_pos hlt
                have e1 : cst id m k l nm ac T U (j + 1) = rst id (m + 1) (ac ++ [T]) := if_neg (by omega)
                rw [e1] at h ⊢
                rw [e0] at h
                rw [← HS.out]
                refine h.mono ?_
                rintro e w' ⟨vr', va', rfl, hm', hb⟩
                obtain ⟨x0a, x0k, rfl⟩ : ∃ a c, vr' = .slice a 0 c := by
                  have q := hm'.out.1.slice
                  exact q
                obtain ⟨x1a, x1k, rfl⟩ : ∃ a c, va' = .slice a (ac.length + 1) c := by
                  have q := hm'.out.2.slice
                  rw [show (rst id (m + 1) (ac ++ [T])).ac = ac ++ [T] from rfl, List.length_append] at q
                  exact q
                exact ⟨x0a, x0k, x1a, x1k, rfl, hm', hb⟩
              have HOX : Hid (∀ W x0a x0k x1a x1k, Mine W (bC + 1) (cst id m k l nm ac T U (j + 1)) (.slice x0a 0 x0k) (.slice x1a (ac.length + 1) x1k) → Below w.heap.size w W → Calls Tryd.prog 11 #[.int .i64 4, .agg #[.int .i64 (id : Int), .int .i64 s, .bool false, .int .i64 0, .int .i64 0, .int .i64 0, .int .i64 0, .string ⟨#[]⟩, .slice x0a 0 x0k, .slice x1a (ac.length + 1) x1k]] W fun e w' => e = .returned (.bool true) ∧ Below W.heap.size W w') := fun W x0a x0k x1a x1k hmn hW => by
                have h := implClientOK_any 4 (cst id m k l nm ac T U (j + 1)) (.slice x0a 0 x0k) (.slice x1a (ac.length + 1) x1k) W hmn.has (cst_tc HOK.out (by omega)) (HKT.out W hW).1 (HKT.out W hW).2
                rw [cst_ok HOK.out (by omega)] at h
                have e1 : cst id m k l nm ac T U (j + 1) = rst id (m + 1) (ac ++ [T]) := if_neg (by omega)
                rw [e1] at h
                rw [← HS.out]
                exact h
              have hnd : ∀ W : World, (W.alloc (.cells #[.int .i64 3, .int .i64 3, .int .i64 1, .int .i64 2] 3)).cell? ⟨W.heap.size, j, none⟩ = some (.int .i64 (nod j : Int)) := fun W => nod_cell W hlt
              have B14 : Hid (Below wk.heap.size wk (wk.alloc (.cells #[.int .i64 3, .int .i64 3, .int .i64 1, .int .i64 2] 3))) := Rg.bel_new _ _
              have hnw := hnd wk
              clear hnd
              go_upto_region 22 with fail
              generalize wk.alloc (.cells #[.int .i64 3, .int .i64 3, .int .i64 1, .int .i64 2] 3) = w14 at B14 hnw ⊢
              clear hnw
              obtain ⟨N, HN⟩ : ∃ N : Int, Hid ((nod j : Int) = N) := ⟨_, rfl⟩
              rw [HN.out] at HMK
              rw [HN.out]
              clear hnj
              have a0 := (Rg.blk_cell (HBJ.out _ B14.out).2.2.1 0 (x := .int .i64 T.1) rfl).1
              have a1 := (Rg.blk_cell (HBJ.out _ B14.out).2.2.1 1 (x := .int .i64 T.2.1) rfl).1
              have a2 := (Rg.blk_cell (HBJ.out _ B14.out).2.2.1 2 (x := .int .i64 T.2.2.1) rfl).1
              have a3 := (Rg.blk_cell (HBJ.out _ B14.out).2.2.1 3 (x := .int .i64 T.2.2.2) rfl).1
              have HA15 : Hid ((w14.alloc (.cells #[.int .i64 T.1, .int .i64 T.2.1, .int .i64 T.2.2.1, .int .i64 T.2.2.2] 35)).heap[w14.heap.size]? = some (.cells #[.int .i64 T.1, .int .i64 T.2.1, .int .i64 T.2.2.1, .int .i64 T.2.2.2] 35 (0, 0)) ∧ Below wk.heap.size wk (w14.alloc (.cells #[.int .i64 T.1, .int .i64 T.2.1, .int .i64 T.2.2.1, .int .i64 T.2.2.2] 35)) ∧ wk.heap.size ≤ w14.heap.size) := ⟨heap_alloc_new w14 _, B14.out.trans ((Rg.bel_new _ _).mono B14.out.size), B14.out.size⟩
              go_upto_region 23 with fail
              generalize w14.alloc (.cells #[.int .i64 T.1, .int .i64 T.2.1, .int .i64 T.2.2.1, .int .i64 T.2.2.2] 35) = w15 at HA15 ⊢
              generalize w14.heap.size = bS at HA15 ⊢
              clear a0 a1 a2 a3 B14
              have HA16 : Hid (w15.heap[bS]? = some (.cells #[.int .i64 T.1, .int .i64 T.2.1, .int .i64 T.2.2.1, .int .i64 T.2.2.2] 35 (0, 0)) ∧ Below wk.heap.size wk w15) := ⟨HA15.out.1, HA15.out.2.1⟩
              go_upto_region 25 with fail
              obtain ⟨w16, rfl⟩ : ∃ w16, w16 = w15 := ⟨_, rfl⟩
              clear HA15
              have a0 := (Rg.blk_cell HA16.out.1 0 (x := .int .i64 T.1) rfl).1
              have a1 := (Rg.blk_cell HA16.out.1 1 (x := .int .i64 T.2.1) rfl).1
              have a2 := (Rg.blk_cell HA16.out.1 2 (x := .int .i64 T.2.2.1) rfl).1
              have a3 := (Rg.blk_cell HA16.out.1 3 (x := .int .i64 T.2.2.2) rfl).1
              have c0 := (Rg.blk_cell (HBJ.out _ HA16.out.2).1 0 (x := .int .i64 (id : Int)) rfl).1
              have c1 := (Rg.blk_cell (HBJ.out _ HA16.out.2).1 1 (x := .int .i64 s) rfl).1
              have c2 := (Rg.blk_cell (HBJ.out _ HA16.out.2).1 2 (x := .bool true) rfl).1
              have c3 := (Rg.blk_cell (HBJ.out _ HA16.out.2).1 3 (x := .int .i64 (id : Int)) rfl).1
              have c4 := (Rg.blk_cell (HBJ.out _ HA16.out.2).1 4 (x := .int .i64 s) rfl).1
              have c5 := (Rg.blk_cell (HBJ.out _ HA16.out.2).1 5 (x := .int .i64 k) rfl).1
              have c6 := (Rg.blk_cell (HBJ.out _ HA16.out.2).1 6 (x := .int .i64 l) rfl).1
              have c7 := (Rg.blk_cell (HBJ.out _ HA16.out.2).1 7 (x := .string nm) rfl).1
              have c8 := (Rg.blk_cell (HBJ.out _ HA16.out.2).1 8 (x := .slice j0a j j0k) rfl).1
              have c9 := (Rg.blk_cell (HBJ.out _ HA16.out.2).1 9 (x := .slice j1a ac.length j1k) rfl).1
              go_wp2_with fail
              refine (HMK.out _ (HBJ.out _ HA16.out.2).2.2.2.be).mono ?_
              rintro e w17 ⟨rfl, b17⟩
              have HA18 : Hid ((w17.alloc (.cells #[.int .i64 x.nd, .int .i64 x.cl, .int .i64 x.st, .int .i64 x.kd, .int .i64 x.tk, .int .i64 x.hd, .int .i64 x.ex, .string x.mc] 39)).heap[w17.heap.size]? = some (.cells #[.int .i64 x.nd, .int .i64 x.cl, .int .i64 x.st, .int .i64 x.kd, .int .i64 x.tk, .int .i64 x.hd, .int .i64 x.ex, .string x.mc] 39 (0, 0)) ∧ Below wk.heap.size wk (w17.alloc (.cells #[.int .i64 x.nd, .int .i64 x.cl, .int .i64 x.st, .int .i64 x.kd, .int .i64 x.tk, .int .i64 x.hd, .int .i64 x.ex, .string x.mc] 39))) := ⟨heap_alloc_new w17 _, (HA16.out.2.trans (b17.mono HA16.out.2.size)).trans ((Rg.bel_new w17 _).mono (Nat.le_trans HA16.out.2.size b17.size))⟩
              clear b17 a0 a1 a2 a3 c0 c1 c2 c3 c4 c5 c6 c7 c8 c9
              go_upto_region 26 with fail
              generalize w17.alloc (.cells #[.int .i64 x.nd, .int .i64 x.cl, .int .i64 x.st, .int .i64 x.kd, .int .i64 x.tk, .int .i64 x.hd, .int .i64 x.ex, .string x.mc] 39) = w18 at HA18 ⊢
              generalize w17.heap.size = bP at HA18 ⊢
              clear HA16 HMK
              have p0 := (Rg.blk_cell HA18.out.1 0 (x := .int .i64 x.nd) rfl).1
              have p1 := (Rg.blk_cell HA18.out.1 1 (x := .int .i64 x.cl) rfl).1
              have p2 := (Rg.blk_cell HA18.out.1 2 (x := .int .i64 x.st) rfl).1
              have p3 := (Rg.blk_cell HA18.out.1 3 (x := .int .i64 x.kd) rfl).1
              have p4 := (Rg.blk_cell HA18.out.1 4 (x := .int .i64 x.tk) rfl).1
              have p5 := (Rg.blk_cell HA18.out.1 5 (x := .int .i64 x.hd) rfl).1
              have p6 := (Rg.blk_cell HA18.out.1 6 (x := .int .i64 x.ex) rfl).1
              have p7 := (Rg.blk_cell HA18.out.1 7 (x := .string x.mc) rfl).1
              have c0 := (Rg.blk_cell (HBJ.out _ HA18.out.2).1 0 (x := .int .i64 (id : Int)) rfl).1
              have c1 := (Rg.blk_cell (HBJ.out _ HA18.out.2).1 1 (x := .int .i64 s) rfl).1
              have c2 := (Rg.blk_cell (HBJ.out _ HA18.out.2).1 2 (x := .bool true) rfl).1
              have c3 := (Rg.blk_cell (HBJ.out _ HA18.out.2).1 3 (x := .int .i64 (id : Int)) rfl).1
              have c4 := (Rg.blk_cell (HBJ.out _ HA18.out.2).1 4 (x := .int .i64 s) rfl).1
              have c5 := (Rg.blk_cell (HBJ.out _ HA18.out.2).1 5 (x := .int .i64 k) rfl).1
              have c6 := (Rg.blk_cell (HBJ.out _ HA18.out.2).1 6 (x := .int .i64 l) rfl).1
              have c7 := (Rg.blk_cell (HBJ.out _ HA18.out.2).1 7 (x := .string nm) rfl).1
              have c8 := (Rg.blk_cell (HBJ.out _ HA18.out.2).1 8 (x := .slice j0a j j0k) rfl).1
              have c9 := (Rg.blk_cell (HBJ.out _ HA18.out.2).1 9 (x := .slice j1a ac.length j1k) rfl).1
              go_wp2_with fail
              refine (HTK.out _ (HBJ.out _ HA18.out.2).2.2.2).mono ?_
              rintro e w19 ⟨x0a, x0k, x1a, x1k, rfl, HMX, b19⟩
              have HA20 : Hid (∀ W, Below (w19.alloc (.cells #[.int .i64 (id : Int), .int .i64 s, .bool false, .int .i64 0, .int .i64 0, .int .i64 0, .int .i64 0, .string ⟨#[]⟩, .slice x0a 0 x0k, .slice x1a (ac.length + 1) x1k] 28)).heap.size (w19.alloc (.cells #[.int .i64 (id : Int), .int .i64 s, .bool false, .int .i64 0, .int .i64 0, .int .i64 0, .int .i64 0, .string ⟨#[]⟩, .slice x0a 0 x0k, .slice x1a (ac.length + 1) x1k] 28)) W → W.heap[w19.heap.size]? = some (.cells #[.int .i64 (id : Int), .int .i64 s, .bool false, .int .i64 0, .int .i64 0, .int .i64 0, .int .i64 0, .string ⟨#[]⟩, .slice x0a 0 x0k, .slice x1a (ac.length + 1) x1k] 28 (0, 0)) ∧ Mine W (bC + 1) (cst id m k l nm ac T U (j + 1)) (.slice x0a 0 x0k) (.slice x1a (ac.length + 1) x1k) ∧ Below wk.heap.size wk W) := fun W hW => by
                have hn := (Rg.bel_new w19 (.cells #[.int .i64 (id : Int), .int .i64 s, .bool false, .int .i64 0, .int .i64 0, .int .i64 0, .int .i64 0, .string ⟨#[]⟩, .slice x0a 0 x0k, .slice x1a (ac.length + 1) x1k] 28)).trans (hW.mono (by simp))
                have h0 := HA18.out.2.trans ((b19.trans (hn.mono b19.size)).mono HA18.out.2.size)
                exact ⟨(hW.block w19.heap.size (by simp)).trans (heap_alloc_new w19 _), (HMX.out.mono (HBJ.out _ HA18.out.2).2.2.2.lt).below hn, h0⟩
              clear b19 p0 p1 p2 p3 p4 p5 p6 p7 c0 c1 c2 c3 c4 c5 c6 c7 c8 c9 HMX HTK
              go_upto_region 27 with fail
              generalize w19.alloc (.cells #[.int .i64 (id : Int), .int .i64 s, .bool false, .int .i64 0, .int .i64 0, .int .i64 0, .int .i64 0, .string ⟨#[]⟩, .slice x0a 0 x0k, .slice x1a (ac.length + 1) x1k] 28) = w20 at HA20 ⊢
              generalize w19.heap.size = bX at HA20 ⊢
              clear HA18
              have hbx := (HA20.out _ (Below.refl _ _)).1
              have c0 := (Rg.blk_cell hbx 0 (x := .int .i64 (id : Int)) rfl).1
              have c1 := (Rg.blk_cell hbx 1 (x := .int .i64 s) rfl).1
              have c2 := (Rg.blk_cell hbx 2 (x := .bool false) rfl).1
              have c3 := (Rg.blk_cell hbx 3 (x := .int .i64 0) rfl).1
              have c4 := (Rg.blk_cell hbx 4 (x := .int .i64 0) rfl).1
              have c5 := (Rg.blk_cell hbx 5 (x := .int .i64 0) rfl).1
              have c6 := (Rg.blk_cell hbx 6 (x := .int .i64 0) rfl).1
              have c7 := (Rg.blk_cell hbx 7 (x := .string ⟨#[]⟩) rfl).1
              have c8 := (Rg.blk_cell hbx 8 (x := .slice x0a 0 x0k) rfl).1
              have c9 := (Rg.blk_cell hbx 9 (x := .slice x1a (ac.length + 1) x1k) rfl).1
              have h3I : ¬ (j : Int) < 3 := by omega
              go_wp2_with (first | (go_at_call 11; refine (HOX.out _ x0a x0k x1a x1k (HA20.out _ (Below.refl _ _)).2.1 (HBJ.out _ (HA20.out _ (Below.refl _ _)).2.2).2.2.2.be).mono ?_; rintro e w21 ⟨rfl, b21⟩; have B21 : Hid (Below w20.heap.size w20 w21) := b21; clear b21 hbx c0 c1 c2 c3 c4 c5 c6 c7 c8 c9; have hbx := (HA20.out _ B21.out).1; have c0 := (Rg.blk_cell hbx 0 (x := .int .i64 (id : Int)) rfl).1; have c1 := (Rg.blk_cell hbx 1 (x := .int .i64 s) rfl).1; have c2 := (Rg.blk_cell hbx 2 (x := .bool false) rfl).1; have c3 := (Rg.blk_cell hbx 3 (x := .int .i64 0) rfl).1; have c4 := (Rg.blk_cell hbx 4 (x := .int .i64 0) rfl).1; have c5 := (Rg.blk_cell hbx 5 (x := .int .i64 0) rfl).1; have c6 := (Rg.blk_cell hbx 6 (x := .int .i64 0) rfl).1; have c7 := (Rg.blk_cell hbx 7 (x := .string ⟨#[]⟩) rfl).1; have c8 := (Rg.blk_cell hbx 8 (x := .slice x0a 0 x0k) rfl).1; have c9 := (Rg.blk_cell hbx 9 (x := .slice x1a (ac.length + 1) x1k) rfl).1;  have hbc := (HBJ.out _ (HA20.out _ B21.out).2.2).1; obtain ⟨z0, zf0⟩ := Rg.blk_cell hbc 0 (x := .int .i64 (id : Int)) rfl; obtain ⟨z1, zf1⟩ := Rg.blk_cell hbc 1 (x := .int .i64 s) rfl; obtain ⟨z2, zf2⟩ := Rg.blk_cell hbc 2 (x := .bool true) rfl; obtain ⟨z3, zf3⟩ := Rg.blk_cell hbc 3 (x := .int .i64 (id : Int)) rfl; obtain ⟨z4, zf4⟩ := Rg.blk_cell hbc 4 (x := .int .i64 s) rfl; obtain ⟨z5, zf5⟩ := Rg.blk_cell hbc 5 (x := .int .i64 k) rfl; obtain ⟨z6, zf6⟩ := Rg.blk_cell hbc 6 (x := .int .i64 l) rfl; obtain ⟨z7, zf7⟩ := Rg.blk_cell hbc 7 (x := .string nm) rfl; obtain ⟨z8, zf8⟩ := Rg.blk_cell hbc 8 (x := .slice j0a j j0k) rfl; obtain ⟨z9, zf9⟩ := Rg.blk_cell hbc 9 (x := .slice j1a ac.length j1k) rfl))
              have hfin := (HBJ.out _ (HA20.out _ B21.out).2.2).2.2.2.store (HA20.out _ B21.out).2.1
              have e1 : cst id m k l nm ac T U (j + 1) = rst id (m + 1) (ac ++ [T]) := if_neg (by omega)
              refine ⟨⟨j + 1, by omega, by go_num, ⟨.slice x0a 0 x0k, .slice x1a (ac.length + 1) x1k, ?_, ?_, ?_, HNE.out.1, HNE.out.2⟩⟩, by simp [intOf]; omega⟩
              · rw [e1] at hfin ⊢
                rw [← HS.out]
                exact hfin
              · exact (set10_far HNE.out.1).trans (HBJ.out _ (HA20.out _ B21.out).2.2).2.1
              · exact (set10_far HNE.out.2).trans (HBJ.out _ (HA20.out _ B21.out).2.2).2.2.1
        · obtain rfl : j = 4 := by omega
          clear hlt hj
          have e4 : cst id m k l nm ac T U 4 = rst id (m + 1) (ac ++ [T]) := if_neg (by decide)
          obtain ⟨t0a, t0k, rfl⟩ : ∃ a c, vr = .slice a 0 c := by
            have h := HJC.out.1.mi.1.slice
            rw [e4] at h
            exact h
          obtain ⟨t1a, t1k, rfl⟩ : ∃ a c, va = .slice a (ac.length + 1) c := by
            have h := HJC.out.1.mi.2.slice
            rw [e4] at h
            rw [show (rst id (m + 1) (ac ++ [T])).ac = ac ++ [T] from rfl, List.length_append] at h
            exact h
          have HCF : Hid (Cw w wk bC (rst id (m + 1) (ac ++ [T])) (.slice t0a 0 t0k) (.slice t1a (ac.length + 1) t1k)) := by
            have h := HJC.out.1
            rw [e4] at h
            exact h
          have hbc : wk.heap[bC]? = some (.cells #[.int .i64 (id : Int), .int .i64 s, .bool false, .int .i64 0, .int .i64 0, .int .i64 0, .int .i64 0, .string ⟨#[]⟩, .slice t0a 0 t0k, .slice t1a (ac.length + 1) t1k] 28 (0, 0)) := by
            have h := HCF.out.bx
            rw [← HS.out]
            exact h
          have c0 := (Rg.blk_cell hbc 0 (x := .int .i64 (id : Int)) rfl).1
          have c1 := (Rg.blk_cell hbc 1 (x := .int .i64 s) rfl).1
          have c2 := (Rg.blk_cell hbc 2 (x := .bool false) rfl).1
          have c3 := (Rg.blk_cell hbc 3 (x := .int .i64 0) rfl).1
          have c4 := (Rg.blk_cell hbc 4 (x := .int .i64 0) rfl).1
          have c5 := (Rg.blk_cell hbc 5 (x := .int .i64 0) rfl).1
          have c6 := (Rg.blk_cell hbc 6 (x := .int .i64 0) rfl).1
          have c7 := (Rg.blk_cell hbc 7 (x := .string ⟨#[]⟩) rfl).1
          have c8 := (Rg.blk_cell hbc 8 (x := .slice t0a 0 t0k) rfl).1
          have c9 := (Rg.blk_cell hbc 9 (x := .slice t1a (ac.length + 1) t1k) rfl).1
          have a0 := (Rg.blk_cell HJC.out.2.2.1 0 (x := .int .i64 T.1) rfl).1
          have a1 := (Rg.blk_cell HJC.out.2.2.1 1 (x := .int .i64 T.2.1) rfl).1
          have a2 := (Rg.blk_cell HJC.out.2.2.1 2 (x := .int .i64 T.2.2.1) rfl).1
          have a3 := (Rg.blk_cell HJC.out.2.2.1 3 (x := .int .i64 T.2.2.2) rfl).1
          obtain ⟨gA, oA, hgA, l0, l1, l2, l3⟩ := last_cell HCF.out.mi.2.row HAC.out.1
          subst hgA
          have hln : ((ac.length : Int) + 1 != (m : Int) + 1) = false := by rw [HAC.out.1]; simp
          have hli : (m : Int) < (ac.length : Int) + 1 := by rw [HAC.out.1]; omega
          have hq := neqA T T
          rw [decide_eq_true rfl] at hq
          have hgq := guardA
          have HFA : Hid ((ac ++ [T]).length = m + 1 ∧ (ac ++ [T]).all okA = true) := ⟨by rw [List.length_append, HAC.out.1]; rfl, by rw [List.all_append, HAC.out.2]; simp [HOK.out.T_]⟩
          clear HJC e4 hbc
          go_upto_region 30 with fail
          go_quiet (fail)
          go_wp2_with fail
          exact ⟨⟨m + 1, by omega, by go_num, ⟨ac ++ [T], _, _, HFA.out, HCF.out.below ⟨rfl, rfl, rfl, Nat.le_refl _, fun _ _ => rfl⟩⟩⟩, by simp [intOf]; omega⟩
    · obtain rfl : m = 3 := by omega
      have HF : Hid (Below w.heap.size w wr) := HCW.out.be
      go_wp2_with fail
      go_ret
      exact ⟨rfl, HF.out⟩

set_option maxRecDepth 100000 in
theorem lifted (os : Os) (started : os.Started) (H : Type) (enc : TypeId × Value → H) :
    ReturnsInHanded {} Tryd.checked os 3 .any (fun w args => (Rows.fnClientsSpec.pre enc Tryd.prog Tryd.f3 [] false w args ∧ laidMetH Tryd.prog Rows.fnClientsRow.laid w) ∧ sizedMet enc Tryd.prog Tryd.f3 (OpenSpec.ofChange Rows.fnClientsSpec) false w args)
      (Rows.fnClientsSpec.post enc Tryd.prog Tryd.f3 false true false false) := by
  refine returnsInHanded_of_change_and (C := Tryd.checked) (X := fun w _ => laidMetH Tryd.prog Rows.fnClientsRow.laid w) (fun _ _ _ hh h => h.of_heap hh) own started (by kernel_rfl) Tryd.func3
    (ChangeSpec.witness_shaped (enc := enc) (C := Tryd.checked) (os := os) (X := fun w _ => laidMetH Tryd.prog Rows.fnClientsRow.laid w) false (World.doorLaid Tryd.prog 400 os) #[.slice none 0 0, .slice none 0 0] 8 rfl (World.shaped_of_RefB (by kernel_rfl) (by kernel_rfl)) (by kernel_rfl) (by kernel_rfl) (by kernel_rfl) (door_met os _)) ?_
  intro W base args ds gs before hval0 hW _ _ hL _
  have hval : ∀ (j : Nat) t v, Tryd.f3.params[j]? = some t → args[j]? = some v → Value.okWide Tryd.prog W .any base t v := hval0
  have hW' := hW
  obtain ⟨p, q, hA0, hV0, rfl, hfz, hnd⟩ := hW
  have hA : DataW.TrodAll enc Tryd.prog W 0 (fun _ => true) true Tryd.f3.params.toList args.toList ds p := hA0
  have hV : DataW.TrodVars enc Tryd.prog W (fun _ => true) ["loop.example/g00292/impl.roundWords"] gs q := hV0
  rw [Tryd.params3] at hA hval
  obtain ⟨v0, vs0, d0, ds0, p0, q0, hargs, rfl, rfl, h0, r0⟩ := trodAll_cons hA
  obtain ⟨v1, vs1, d1, ds1, p1, q1, rfl, rfl, rfl, h1, r1⟩ := trodAll_cons r0
  obtain ⟨rfl, rfl, rfl⟩ := trodAll_nil r1
  obtain rfl : args = #[v0, v1] := by cases args; simp_all
  obtain ⟨_, _, _, _, dv, _, rfl, _⟩ := trodVars_one hV
  have k00 := h0
  have lt0 : ∀ x ∈ p0, x.block < W.heap.size := by obtain ⟨m, hm⟩ := k00; exact DataW.trod_lt m _ _ _ hm
  obtain ⟨xs0, w0⟩ := Op.open_bytes (hval 0 22 v0 rfl rfl) h0 (fun _ => rfl)
  have k10 := h1
  have lt1 : ∀ x ∈ p1, x.block < W.heap.size := by obtain ⟨m, hm⟩ := k10; exact DataW.trod_lt m _ _ _ hm
  obtain ⟨xs1, w1⟩ := Op.open_bytes (hval 1 22 v1 rfl rfl) h1 (fun _ => rfl)
  clear hA0 hval0 hV0
  have hT := Hl.tab_of hL
  refine (walk v0 xs0 w0 v1 xs1 w1 hT.1 hT.2).mono fun e W' ⟨he, bel⟩ => ?_
  subst he
  exact ⟨_, rfl, _, _, _, [], _, q, hW', trodAll_mk1 (shut_bool Tryd.underlying4 _), (trodAll_cons_mk (Below.trod laidOut (by kernel_rfl) (of_decide_eq_true (by kernel_rfl)) k00 bel lt0) (trodAll_cons_mk (Below.trod laidOut (by kernel_rfl) (of_decide_eq_true (by kernel_rfl)) k10 bel lt1) trodAll_mk0)), Below.trodVars laidOut bel rowed hV, bel.frame _, fun h => by cases h⟩

theorem said : Rows.FnClientsSaid :=
  OpenClaim.holds_of_wide 3 Tryd.f3 rfl rfl rfl rfl rfl rfl rfl ⟨rfl, rfl, rfl, rfl, rfl⟩ rfl rfl rfl rfl rfl (by kernel_rfl) Tryd.func3 (by kernel_rfl)
    (of_decide_eq_true (by kernel_rfl)) (by unfold Func.isWrapper; first | (rw [if_pos (by decide +kernel)]; kernel_rfl) | (rw [if_neg (by decide +kernel)]; exact ⟨rfl, rfl⟩))
    (fun os started H enc _ => lifted os started H enc)

/-- No parameter wants a stand-in; the program's own looks are off. -/
theorem plain (f : FuncId) (fn : Func) (hf : Tryd.pinned.checked.prog.funcNamed "loop.example/g00292/laws.FnClients" = some f) (hfn : Tryd.pinned.checked.prog.funcs[f]? = some fn) :
    false = Tryd.pinned.checked.prog.looks [] ∧ ∀ (j : Nat) t, fn.params[j]? = some t → Tryd.pinned.checked.prog.wantsStandIn t = false := by
  obtain rfl : f = 3 := Option.some.inj ((show Tryd.prog.funcNamed "loop.example/g00292/laws.FnClients" = some 3 by kernel_rfl).symm.trans hf) |>.symm
  obtain rfl : fn = Tryd.f3 := (Option.some.inj (Tryd.func3.symm.trans hfn)).symm
  refine ⟨by kernel_rfl, fun j t ht => ?_⟩
  rw [Tryd.params3] at ht
  have hm := Array.mem_of_getElem? ht
  have hl : t ∈ [22, 22] := by simpa using hm
  have hall : ∀ x ∈ [22, 22], Tryd.prog.wantsStandIn x = false := by
    intro x hx
    simp only [List.mem_cons, List.not_mem_nil, or_false] at hx
    rcases hx with rfl | rfl <;> kernel_rfl
  exact hall t hl
end Go.Proofs.YtiflfcpoajijaaaDoor.fnClients
namespace Go.Proofs.YtiflfcpoajijaaaDoor
/-- THE STATEMENT: the card. -/
theorem fnClients_holds : Rows.FnClientsCardSaid :=
  Claim7.holds_tied_plain_at .later [] _ _ _ _ fnClients.said (fun _ h => by cases h) (by kernel_rfl) (fun _ h => by cases h) fnClients_row_tie rfl ⟨rfl, rfl⟩ (by kernel_rfl) rfl fnClients.plain (by kernel_rfl)
end Go.Proofs.YtiflfcpoajijaaaDoor
