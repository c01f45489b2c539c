/- Pieces that are proved: what InstallTable answers; nodesFault, provedFault. -/
import Derived.Test.YtnebohdlndiejaaGreatDoorJInstallTable1
import Derived.Test.YtnebohdlndiejaaGreatDoorJInstallTable5
import Derived.Test.YtnebohdlndiejaaGreatDoorJInstallTable10
import Derived.Test.YtnebohdlndiejaaGreatDoorEr
namespace Go.Proofs.YtnebohdlndiejaaGreatDoor.Xl
open Go.RowKit Go.Proofs.YtnebohdlndiejaaGreatDoor.Sl Go.Proofs.YtnebohdlndiejaaGreatDoor.By Go.Proofs.YtnebohdlndiejaaGreatDoor.Ap Go.Proofs.YtnebohdlndiejaaGreatDoor.Tx Go.Proofs.YtnebohdlndiejaaGreatDoor.Ho Go.Proofs.YtnebohdlndiejaaGreatDoor.Er Go.Proofs.YtnebohdlndiejaaGreatDoor.Xp
open Go.Proofs.YtnebohdlndiejaaGreatDoor.Sh (KTab KTab.below)
open Go.Proofs.YtnebohdlndiejaaGreatDoor.Pw (ckC implCheckPiece_any)
open Go.Proofs.YtnebohdlndiejaaGreatDoor.Pf (PcP pcB pcC pcB_yes pcB_no pcB_get pcC_ok pcC_get pcC_bad)
open Go.Proofs.YtnebohdlndiejaaGreatDoor.Ur (rtC rtT rtOK zTab)
open Go.Proofs.YtnebohdlndiejaaGreatDoor.Tb (Tab)
open Go.Proofs.YtnebohdlndiejaaGreatDoor.Xs (stB)
open Go.Proofs.YtnebohdlndiejaaGreatDoor.Xv (vok vok_size)
open Go.Proofs.YtnebohdlndiejaaGreatDoor.Xq (f_four)
open Go.Proofs.YtnebohdlndiejaaGreatDoor.Tm (fCode fOut implFaultsOf_any)
open Go.Proofs.YtnebohdlndiejaaGreatDoor.Gt (Vo)

/-- The code of one piece; of the first k pieces. -/
noncomputable def pfC (rt piece : ByteArray) (i n : Int) (proof : ByteArray) : Int := if okT proof = true then ckC rt piece i n (chk proof) else 10
noncomputable def fbC (rt : ByteArray) (sz : Int) (ps qs : List ByteArray) : Nat → Int
  | 0 => 0
  | k + 1 => if fbC rt sz ps qs k = 0 then pfC rt (tnth ps k) k sz (tnth qs k) else fbC rt sz ps qs k
section
variable {rt : ByteArray} {sz : Int} {ps qs : List ByteArray}
theorem fb_succ (k : Nat) : fbC rt sz ps qs (k + 1) = if fbC rt sz ps qs k = 0 then pfC rt (tnth ps k) k sz (tnth qs k) else fbC rt sz ps qs k := rfl
theorem fb_stay {k : Nat} (h : fbC rt sz ps qs k ≠ 0) : ∀ m, k ≤ m → fbC rt sz ps qs m = fbC rt sz ps qs k
  | 0, hm => by
    have : k = 0 := by omega
    rw [this]
  | m + 1, hm => by
    by_cases e : k = m + 1
    · rw [e]
    · have ih := fb_stay h m (by omega)
      rw [fb_succ, ih, if_neg h]
theorem fb_first {k m : Nat} {c : Int} (h0 : fbC rt sz ps qs k = 0) (h : pfC rt (tnth ps k) k sz (tnth qs k) = c) (hc : c ≠ 0) (hm : k < m) : fbC rt sz ps qs m = c := by
  have e : fbC rt sz ps qs (k + 1) = c := by rw [fb_succ, if_pos h0, h]
  rw [fb_stay (by rw [e]; exact hc) m hm, e]
theorem fb_go {k : Nat} (h0 : fbC rt sz ps qs k = 0) (h : pfC rt (tnth ps k) k sz (tnth qs k) = 0) : fbC rt sz ps qs (k + 1) = 0 := by rw [fb_succ, if_pos h0, h]
end
theorem ck_vals (rt piece : ByteArray) (i n : Int) (ps : List ByteArray) : ckC rt piece i n ps = 0 ∨ ckC rt piece i n ps = 1 ∨ ckC rt piece i n ps = 2 ∨ ckC rt piece i n ps = 4 ∨ ckC rt piece i n ps = 10 ∨ ckC rt piece i n ps = 11 := by
  unfold ckC
  repeat' split
  all_goals simp
theorem pf_vals (rt piece : ByteArray) (i n : Int) (pr : ByteArray) : pfC rt piece i n pr = 0 ∨ pfC rt piece i n pr = 1 ∨ pfC rt piece i n pr = 2 ∨ pfC rt piece i n pr = 4 ∨ pfC rt piece i n pr = 10 ∨ pfC rt piece i n pr = 11 := by
  unfold pfC
  split
  · exact ck_vals _ _ _ _ _
  · simp
theorem pf_code {rt piece : ByteArray} {i n : Int} {pr : ByteArray} (h : pfC rt piece i n pr ≠ 0) : fcode (fidx (pfC rt piece i n pr)) = pfC rt piece i n pr := by
  rcases pf_vals rt piece i n pr with e | e | e | e | e | e
  · exact absurd e h
  all_goals rw [e]; decide
/-- What InstallTable answers. -/
noncomputable def itC (n sq sz : Int) (rt : ByteArray) (vs : List Vo) (ps qs : List ByteArray) : Int :=
  if 4096 < ps.length ∨ 4096 < qs.length then 2 else if fCode n = 0 then (if stB n sq sz rt vs = true then (if pcB ps = true ∧ (ps.length : Int) = sz ∧ (qs.length : Int) = sz then (if fbC rt sz ps qs ps.length = 0 then rtC (cat ps) else fbC rt sz ps qs ps.length) else 1) else 12) else 4
noncomputable def itT (n sq sz : Int) (rt : ByteArray) (vs : List Vo) (ps qs : List ByteArray) : Tab := if itC n sq sz rt vs ps qs = 0 then rtT (cat ps) else zTab
structure It (n sq sz : Int) (rt : ByteArray) (vs : List Vo) (ps qs : List ByteArray) (c : Int) (t : Tab) : Prop where
  c : itC n sq sz rt vs ps qs = c
  t : itT n sq sz rt vs ps qs = t
theorem it_no {n sq sz : Int} {rt : ByteArray} {vs : List Vo} {ps qs : List ByteArray} {c : Int} (h : itC n sq sz rt vs ps qs = c) (hc : c ≠ 0) : It n sq sz rt vs ps qs c zTab := ⟨h, by unfold itT; rw [h, if_neg hc]⟩
theorem it_end {n sq sz : Int} {rt : ByteArray} {vs : List Vo} {ps qs : List ByteArray} (h : itC n sq sz rt vs ps qs = rtC (cat ps)) : It n sq sz rt vs ps qs (rtC (cat ps)) (rtT (cat ps)) := ⟨h, by
  unfold itT
  rw [h]
  by_cases e : rtC (cat ps) = 0
  · rw [if_pos e]
  · rw [if_neg e]
    unfold rtT
    rw [if_neg e]⟩
theorem cat_le {n : Nat} : ∀ (ts : List ByteArray), (∀ t ∈ ts, t.size ≤ n) → (cat ts).length ≤ n * ts.length
  | [], _ => by simp [cat]
  | t :: ts, h => by
    have ih := cat_le ts (fun x hx => h x (List.mem_cons_of_mem _ hx))
    have h1 := h t List.mem_cons_self
    unfold cat at ih ⊢
    rw [List.flatMap_cons, List.length_append, bys_length, List.length_cons, Nat.mul_succ]
    omega
theorem cat_range (ts : List ByteArray) : ∀ z ∈ cat ts, 0 ≤ z ∧ z ≤ 255 := by
  intro z hz
  unfold cat at hz
  obtain ⟨t, _, ht⟩ := List.mem_flatMap.1 hz
  exact bys_range t z ht
theorem pc_small {ts : List ByteArray} (h : PcP ts) : ∀ t ∈ ts, t.size ≤ 32 := fun t ht => by
  obtain ⟨k, hk, e⟩ := List.getElem_of_mem ht
  have := (h.2 k hk).2.1
  have e2 : tnth ts k = t := by unfold tnth; rw [List.getD_eq_getElem?_getD, List.getElem?_eq_getElem hk, e]; rfl
  rwa [e2] at this
theorem pc_cat {ts : List ByteArray} (h : PcP ts) : (cat ts).length ≤ 2048 := by
  have := cat_le ts (pc_small h)
  have := h.1
  omega
theorem rt_vals {xs : List Int} (h : xs.length ≤ 2048) : rtC xs = 0 ∨ rtC xs = 3 := by
  unfold rtC
  rw [if_neg (by omega)]
  split
  · exact .inl rfl
  · exact .inr rfl
/-- What a proof's fault was found in. -/
def pfS (proof : ByteArray) : ByteArray := if okT proof = true then tPr else tPt
theorem chk_len (s : ByteArray) : (chk s).length = s.size / 32 := by unfold chk; exact hsTo_len s _
set_option maxRecDepth 100000 in
set_option maxHeartbeats 1600000 in
theorem nodesFault_nil (n : Int) (w : World) (h : fCode n = 0) : Calls Tryz.prog 65 #[.int .i64 n] w fun e w' => e = .returned .nilIface ∧ Below w.heap.size w w' := by
  have HF := implFaultsOf_any n w
  rw [h] at HF
  clear h
  go_enter Tryz.func65, Tryz.ntmps65
  go_wp2_with fail
  refine HF.mono ?_
  rintro e w1 ⟨rfl, hw⟩
  rw [hw]
  clear hw HF
  go_wp2_with fail
  refine (faultOfCode_nil _ w).mono ?_
  rintro e w2 ⟨rfl, b2⟩
  go_wp2_with fail
  go_ret
  exact ⟨rfl, b2⟩
def tNo : ByteArray := ⟨#[110, 111, 100, 101, 115]⟩
set_option maxRecDepth 100000 in
set_option maxHeartbeats 1600000 in
theorem nodesFault_bad (n : Int) {w : World} {A : Nat → Addr} (h : ¬ fCode n = 0) (hS : Sen w A) : Calls Tryz.prog 65 #[.int .i64 n] w fun e w' => e = .returned (fnd tNo (sen (A 2))) ∧ Below w.heap.size w w' := by
  have HF := implFaultsOf_any n w
  rw [f_four h] at HF
  have HC : Hid (Calls Tryz.prog 68 #[.string tNo, .int .i64 4] w fun e w' => e = .returned (fnd tNo (sen (A 2))) ∧ Below w.heap.size w w') := faultOfCode_any tNo 4 (by decide) hS
  generalize fnd tNo (sen (A 2)) = ev at HC ⊢
  unfold tNo at HC
  clear h hS
  go_enter Tryz.func65, Tryz.ntmps65
  go_wp2_with fail
  refine HF.mono ?_
  rintro e w1 ⟨rfl, hw⟩
  rw [hw]
  clear hw HF
  go_wp2_with fail
  refine HC.out.mono ?_
  rintro e w2 ⟨rfl, b2⟩
  go_wp2_with fail
  go_ret
  exact ⟨rfl, b2⟩
set_option maxRecDepth 100000 in
set_option maxHeartbeats 1600000 in
theorem provedFault_nil (sq sz : Int) (rt : ByteArray) (va : Option Addr) (vn vc : Nat) (piece : ByteArray) (i : Int) (proof : ByteArray) (w : World) (hq : proof.size ≤ 1048576) (h : pfC rt piece i sz proof = 0) (hK : KTab w) (hp : 10 < w.heap.size) :
    Calls Tryz.prog 87 #[.agg #[.int .i64 sq, .int .i64 sz, .string rt, .slice va vn vc], .string piece, .int .i64 i, .string proof] w fun e w' => e = .returned .nilIface ∧ Below w.heap.size w w' := by
  have ho : okT proof = true := by
    cases e : okT proof with
    | true => rfl
    | false => unfold pfC at h; rw [e] at h; simp at h
  have hc : ckC rt piece i sz (chk proof) = 0 := by unfold pfC at h; rwa [if_pos ho] at h
  obtain ⟨ho1, ho2⟩ : proof.size % 32 = 0 ∧ proof.size ≤ 640 := by unfold okT at ho; exact of_decide_eq_true ho
  have HCK : Hid (∀ W v, Below w.heap.size w W → RowT W v (chk proof) → Calls Tryz.prog 119 #[.string rt, .string piece, .int .i64 i, .int .i64 sz, v] W fun e w' => e = .returned (.int .i64 0) ∧ Below W.heap.size W w') := fun W v hW hv => by
    have := implCheckPiece_any rt piece i sz v (chk proof) W hv (by rw [chk_len]; omega) (hK.below hW hp) (Nat.lt_of_lt_of_le hp hW.size)
    rwa [hc] at this
  have HHI : Hid (∀ W, Calls Tryz.prog 118 #[.string proof] W fun e w' => ∃ v, e = .returned (.tuple #[v, .nilIface]) ∧ OwnS w' W.heap.size v (chk proof) ∧ Below W.heap.size W w') := fun W => hashesIn_ok proof W ho1 ho2
  have HX : Hid (∀ W, Below (w.alloc (.cells #[.int .i64 sq, .int .i64 sz, .string rt, .slice va vn vc] 30)).heap.size (w.alloc (.cells #[.int .i64 sq, .int .i64 sz, .string rt, .slice va vn vc] 30)) W → (W.cell? ⟨w.heap.size, 0, none⟩ = some (.int .i64 sq) ∧ W.cell? ⟨w.heap.size, 1, none⟩ = some (.int .i64 sz) ∧ W.cell? ⟨w.heap.size, 2, none⟩ = some (.string rt) ∧ W.cell? ⟨w.heap.size, 3, none⟩ = some (.slice va vn vc)) ∧ Below w.heap.size w W) := fun W hW => by
    have h1 := (hW.block w.heap.size (by simp)).trans (heap_alloc_new w _)
    have b := (bel_new w (.cells #[.int .i64 sq, .int .i64 sz, .string rt, .slice va vn vc] 30)).trans (hW.mono (by simp))
    exact ⟨⟨(blk_cell h1 0 rfl).1, (blk_cell h1 1 rfl).1, (blk_cell h1 2 rfl).1, (blk_cell h1 3 rfl).1⟩, b⟩
  clear h ho hc ho1 ho2 hK hp hq
  go_enter Tryz.func87, Tryz.ntmps87
  go_upto_region 1 with fail
  generalize w.alloc (.cells #[.int .i64 sq, .int .i64 sz, .string rt, .slice va vn vc] 30) = wb at HX ⊢
  go_wp2_with fail
  refine (HHI.out _).mono ?_
  rintro e w1 ⟨v1, rfl, o1, b1⟩
  have R1 : Hid (RowT w1 v1 (chk proof)) := o1.row
  obtain ⟨⟨c0, c1, c2, c3⟩, g1⟩ := HX.out _ b1
  have G1 : Hid (Below w.heap.size w w1) := g1
  clear o1 b1 g1 HX HHI
  go_wp2_with fail
  refine (HCK.out _ _ G1.out R1.out).mono ?_
  rintro e w2 ⟨rfl, b2⟩
  have G2 : Hid (Below w.heap.size w w2) := G1.out.trans (b2.mono G1.out.size)
  clear b2 c0 c1 c2 c3 G1
  go_wp2_with fail
  refine (faultOfCode_nil _ w2).mono ?_
  rintro e w3 ⟨rfl, b3⟩
  have G3 : Hid (Below w.heap.size w w3) := G2.out.trans (b3.mono G2.out.size)
  clear b3 G2
  go_wp2_with fail
  go_ret
  exact ⟨rfl, G3.out⟩
set_option maxRecDepth 100000 in
set_option maxHeartbeats 1600000 in
theorem provedFault_bad (sq sz : Int) (rt : ByteArray) (va : Option Addr) (vn vc : Nat) (piece : ByteArray) (i : Int) (proof : ByteArray) (w : World) (A : Nat → Addr) (hq : proof.size ≤ 1048576) (h : pfC rt piece i sz proof ≠ 0) (hS : Sen w A) (hK : KTab w) (hp : 10 < w.heap.size) :
    Calls Tryz.prog 87 #[.agg #[.int .i64 sq, .int .i64 sz, .string rt, .slice va vn vc], .string piece, .int .i64 i, .string proof] w fun e w' => e = .returned (fnd (pfS proof) (sen (A (fidx (pfC rt piece i sz proof))))) ∧ Below w.heap.size w w' := by
  have HX : Hid (∀ W, Below (w.alloc (.cells #[.int .i64 sq, .int .i64 sz, .string rt, .slice va vn vc] 30)).heap.size (w.alloc (.cells #[.int .i64 sq, .int .i64 sz, .string rt, .slice va vn vc] 30)) W → (W.cell? ⟨w.heap.size, 0, none⟩ = some (.int .i64 sq) ∧ W.cell? ⟨w.heap.size, 1, none⟩ = some (.int .i64 sz) ∧ W.cell? ⟨w.heap.size, 2, none⟩ = some (.string rt) ∧ W.cell? ⟨w.heap.size, 3, none⟩ = some (.slice va vn vc)) ∧ Below w.heap.size w W) := fun W hW => by
    have h1 := (hW.block w.heap.size (by simp)).trans (heap_alloc_new w _)
    have b := (bel_new w (.cells #[.int .i64 sq, .int .i64 sz, .string rt, .slice va vn vc] 30)).trans (hW.mono (by simp))
    exact ⟨⟨(blk_cell h1 0 rfl).1, (blk_cell h1 1 rfl).1, (blk_cell h1 2 rfl).1, (blk_cell h1 3 rfl).1⟩, b⟩
  cases ho : okT proof with
  | true =>
    have hc : pfC rt piece i sz proof = ckC rt piece i sz (chk proof) := by unfold pfC; rw [if_pos ho]
    have hps : pfS proof = tPr := by unfold pfS; rw [if_pos ho]
    rw [hc] at h ⊢
    rw [hps]
    clear hps
    obtain ⟨ho1, ho2⟩ : proof.size % 32 = 0 ∧ proof.size ≤ 640 := by unfold okT at ho; exact of_decide_eq_true ho
    have HCK : Hid (∀ W v, Below w.heap.size w W → RowT W v (chk proof) → Calls Tryz.prog 119 #[.string rt, .string piece, .int .i64 i, .int .i64 sz, v] W fun e w' => e = .returned (.int .i64 (ckC rt piece i sz (chk proof))) ∧ Below W.heap.size W w') := fun W v hW hv => implCheckPiece_any rt piece i sz v (chk proof) W hv (by rw [chk_len]; omega) (hK.below hW hp) (Nat.lt_of_lt_of_le hp hW.size)
    have HHI : Hid (∀ W, Calls Tryz.prog 118 #[.string proof] W fun e w' => ∃ v, e = .returned (.tuple #[v, .nilIface]) ∧ OwnS w' W.heap.size v (chk proof) ∧ Below W.heap.size W w') := fun W => hashesIn_ok proof W ho1 ho2
    generalize ckC rt piece i sz (chk proof) = c at h HCK ⊢
    have HFC : Hid (∀ W, Below w.heap.size w W → Calls Tryz.prog 68 #[.string tPr, .int .i64 c] W fun e w' => e = .returned (fnd tPr (sen (A (fidx c)))) ∧ Below W.heap.size W w') := fun W hW => faultOfCode_any tPr c h (hS.below hW)
    clear ho hc ho1 ho2 hK hp hq hS
    unfold tPr at HFC
    go_enter Tryz.func87, Tryz.ntmps87
    go_upto_region 1 with fail
    generalize w.alloc (.cells #[.int .i64 sq, .int .i64 sz, .string rt, .slice va vn vc] 30) = wb at HX ⊢
    go_wp2_with fail
    refine (HHI.out _).mono ?_
    rintro e w1 ⟨v1, rfl, o1, b1⟩
    have R1 : Hid (RowT w1 v1 (chk proof)) := o1.row
    obtain ⟨⟨c0, c1, c2, c3⟩, g1⟩ := HX.out _ b1
    have G1 : Hid (Below w.heap.size w w1) := g1
    clear o1 b1 g1 HX HHI
    go_wp2_with fail
    refine (HCK.out _ _ G1.out R1.out).mono ?_
    rintro e w2 ⟨rfl, b2⟩
    have G2 : Hid (Below w.heap.size w w2) := G1.out.trans (b2.mono G1.out.size)
    clear b2 c0 c1 c2 c3 G1
    go_wp2_with fail
    refine (HFC.out _ G2.out).mono ?_
    rintro e w3 ⟨rfl, b3⟩
    have G3 : Hid (Below w.heap.size w w3) := G2.out.trans (b3.mono G2.out.size)
    clear b3 G2
    go_wp2_with fail
    go_ret
    exact ⟨rfl, G3.out⟩
  | false =>
    have hc : pfC rt piece i sz proof = 10 := by unfold pfC; rw [ho]; rfl
    have hps : pfS proof = tPt := by unfold pfS; rw [ho]; rfl
    rw [hc, hps]
    clear hps
    have hno : ¬ (proof.size % 32 = 0 ∧ proof.size ≤ 640) := by unfold okT at ho; exact of_decide_eq_false ho
    have HHI : Hid (∀ W, Below w.heap.size w W → Calls Tryz.prog 118 #[.string proof] W fun e w' => e = .returned (.tuple #[.slice none 0 0, fnd tPt (sen (A (fidx 10)))]) ∧ Below W.heap.size W w') := fun W hW => hashesIn_bad proof hq (hS.below hW) hno
    clear ho hc hno hK hp hq hS h
    generalize A (fidx 10) = ad at HHI ⊢
    unfold fnd sen at HHI
    go_enter Tryz.func87, Tryz.ntmps87
    go_upto_region 1 with fail
    generalize w.alloc (.cells #[.int .i64 sq, .int .i64 sz, .string rt, .slice va vn vc] 30) = wb at HX ⊢
    have G0 : Hid (Below w.heap.size w wb) := (HX.out _ (Below.refl _ _)).2
    go_wp2_with fail
    refine (HHI.out _ G0.out).mono ?_
    rintro e w1 ⟨rfl, b1⟩
    have G1 : Hid (Below w.heap.size w w1) := (HX.out _ b1).2
    clear b1 HX HHI
    go_wp2_with fail
    go_ret
    exact ⟨rfl, G1.out⟩
end Go.Proofs.YtnebohdlndiejaaGreatDoor.Xl
