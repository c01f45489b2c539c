/- Texts put together: Rl, Cb, Cb2. -/
import Derived.Test.YtkfiahemgdppfaaGreatDoorP26
import Derived.Test.YtkfiahemgdppfaaGreatDoorP21
import Derived.Deep.CutRange
import Derived.Deep.DeepCutAuto
import Derived.Test.YtkfiahemgdppfaaGreatDoorP1
import Derived.Test.YtkfiahemgdppfaaGreatDoorP6
import Derived.Maps.AppendAt
/- A list is read: impl. -/
namespace Go.Proofs.YtkfiahemgdppfaaGreatDoor.Rl
open Go.RowKit Go.Proofs.YtkfiahemgdppfaaGreatDoor.Sl Go.Proofs.YtkfiahemgdppfaaGreatDoor.By Go.Proofs.YtkfiahemgdppfaaGreatDoor.Ap Go.Proofs.YtkfiahemgdppfaaGreatDoor.Rq Go.Proofs.YtkfiahemgdppfaaGreatDoor.Rr Go.Proofs.YtkfiahemgdppfaaGreatDoor.Ty Go.Proofs.YtkfiahemgdppfaaGreatDoor.Tl

/-- What a reader of lists answers. -/
def rlC (long ok : Bool) : Int := if long then 2 else if ok then 0 else 3
def rlO (long ok : Bool) (ts : List ByteArray) : List ByteArray := if rlC long ok = 0 then ts else []
theorem OwnS.below {w w' : World} {B : Nat} {v : Value} {ts : List ByteArray} (h : OwnS w B v ts) (hb : Below w.heap.size w w') : OwnS w' B v ts := by
  obtain ⟨hl, h⟩ := h
  refine ⟨hl, ?_⟩
  rcases h with h | ⟨g, cap, cur, hv, hB, hgb, h⟩
  · exact .inl h
  · exact .inr ⟨g, cap, cur, hv, hB, (hb.block g (Array.getElem?_eq_some_iff.1 hgb).1).trans hgb, h⟩
theorem OwnS.mono {w : World} {B B' : Nat} {v : Value} {ts : List ByteArray} (h : OwnS w B v ts) (hb : B' ≤ B) : OwnS w B' v ts := by
  obtain ⟨hl, h⟩ := h
  refine ⟨hl, ?_⟩
  rcases h with h | ⟨g, cap, cur, hv, hB, h⟩
  · exact .inl h
  · exact .inr ⟨g, cap, cur, hv, by omega, h⟩
theorem OwnS.nil (w : World) (B : Nat) : OwnS w B (.slice none 0 0) [] := World.ownsRow_nil _ _ _ _

set_option maxHeartbeats 800000 in
theorem readJustList_gen (v : Value) (xs : List Int) (w : World) (h : RowB w v xs) (hl : xs.length ≤ 1048576) (ts : List ByteArray) (rs : List Int) (sb : Bool) (hn : ts.length ≤ 1048576) (hs : ∀ i, i < ts.length → (tnth ts i).size ≤ 1048576)
    (htake : ∀ (W : World) (p B : Nat), Rdr B W p xs false → B ≤ p → xs.length ≤ 70000 → (∀ x ∈ xs, 0 ≤ x ∧ x ≤ 255) → Calls Tryz.prog 92 #[.pointer (some ⟨p, 0, none⟩)] W fun e w' => ∃ v', e = .returned v' ∧ OwnS w' W.heap.size v' ts ∧ Rdr B w' p rs sb ∧ W.grownBy w' (some p)) :
    Calls Tryz.prog 91 #[v, .func (Fn.func 92) #[] #[], .func (Fn.func 93) #[] #[]] w fun e w' => ∃ v', e = .returned (.tuple #[v', .int .i64 (rlC (decide (65536 < xs.length)) (!sb && (rs.isEmpty && okT ts)))]) ∧ OwnS w' w.heap.size v' (rlO (decide (65536 < xs.length)) (!sb && (rs.isEmpty && okT ts)) ts) ∧ Below w.heap.size w w' := by
  have HT : Hid (_) := htake
  clear htake
  have HU : Hid (RowU w.heap.size w v xs) := RowU.of h
  obtain ⟨a, cap, rfl, _, hr⟩ := h
  by_cases hb : 65536 < xs.length
  · have hb' : (65536 : Int) < (xs.length : Int) := by omega
    have HE : Hid (decide (65536 < xs.length) = true) := decide_eq_true hb
    go_enter Tryz.func91, Tryz.ntmps91
    go_wp2_with fail
    go_ret2
    rw [HE.out]
    exact ⟨_, rfl, OwnS.nil _ _, Below.refl _ _⟩
  have hb' : (xs.length : Int) ≤ 65536 := by omega
  have HE : Hid (decide (65536 < xs.length) = false) := decide_eq_false hb
  have HR : Hid (∀ x ∈ xs, 0 ≤ x ∧ x ≤ 255) := hr
  have HX : Hid (xs.length ≤ 65536) := by show _ ≤ _; omega
  have HNS : Hid (∀ _ : Unit, ts.length ≤ 1048576 ∧ ∀ i, i < ts.length → (tnth ts i).size ≤ 1048576) := fun _ => ⟨hn, hs⟩
  have H0 : Hid (Rdr w.heap.size (w.alloc (.cells #[.slice a xs.length cap, .bool false] 178)) w.heap.size xs false) := ⟨_, blk_new _ _ _, HU.out.kept (fun k hk => Below.heap_alloc _ _ _ hk)⟩
  have G0 : Hid (Below w.heap.size w (w.alloc (.cells #[.slice a xs.length cap, .bool false] 178))) := (Below.refl _ _).alloc (Nat.le_refl _) _
  clear hr hl hb HU hn hs
  go_enter Tryz.func91, Tryz.ntmps91
  go_wp2_with fail
  refine (HT.out _ w.heap.size w.heap.size H0.out (Nat.le_refl _) (by have := HX.out; omega) HR.out).mono ?_
  rintro e w4 ⟨v4, rfl, o4, r4, g4⟩
  have S0 : w.heap.size < (w.alloc (.cells #[.slice a xs.length cap, .bool false] 178)).heap.size := by rw [size_new]; omega
  have G4 : Below w.heap.size w w4 := ⟨g4.os.trans G0.out.os, g4.tape.trans G0.out.tape, g4.output.trans G0.out.output, Nat.le_trans G0.out.size g4.size, fun k hk => (below_kept g4 (by omega) S0 k hk).trans (G0.out.block k hk)⟩
  have O4 : Hid (OwnS w4 w.heap.size v4 ts) := OwnS.mono o4 (by rw [size_new]; omega)
  obtain ⟨u4, p4, a', cap', rfl, _, _, _⟩ := r4
  obtain ⟨p0, _⟩ := blk_cell p4 0 (x := .slice a' rs.length cap') rfl
  obtain ⟨p1, _⟩ := blk_cell p4 1 (x := .bool sb) rfl
  clear HT g4 H0 G0 S0 p4 o4
  rcases Bool.eq_false_or_eq_true sb with hsb | hsb
  case inl =>
    subst hsb
    go_wp2_with fail
    go_ret2
    rw [HE.out]
    exact ⟨_, rfl, OwnS.nil _ _, G4⟩
  case inr =>
  subst hsb
  rcases rs with _ | ⟨y, ys⟩
  rotate_left
  · have hlen : 0 < (y :: ys).length := Nat.succ_pos _
    have hdec : decide (0 < (y :: ys).length) = true := decide_eq_true hlen
    have HEm : Hid ((y :: ys).isEmpty = false) := rfl
    generalize (y :: ys).length = len at p0 hlen hdec
    go_wp2_with fail
    go_ret2
    rw [HE.out]
    exact ⟨_, rfl, OwnS.nil _ _, G4⟩
  have HEm : Hid (([] : List Int).isEmpty = true) := rfl
  go_wp2_with fail
  refine (listOK_any v4 ts _ O4.out.row (HNS.out ()).1 (HNS.out ()).2).mono ?_
  rintro e w6 ⟨rfl, hw⟩
  rw [hw]
  clear hw
  cases hq : okT ts
  case false =>
    go_wp2_with fail
    go_ret2
    rw [HE.out, hq]
    exact ⟨_, rfl, OwnS.nil _ _, G4⟩
  case true =>
    go_wp2_with fail
    go_ret2
    rw [HE.out, hq]
    exact ⟨_, rfl, O4.out, G4⟩
end Go.Proofs.YtkfiahemgdppfaaGreatDoor.Rl

/- Certificates: their form, their bytes: the program. -/
namespace Go.Proofs.YtkfiahemgdppfaaGreatDoor.Cb
open Go.RowKit Go.Proofs.YtkfiahemgdppfaaGreatDoor.Sl Go.Proofs.YtkfiahemgdppfaaGreatDoor.By Go.Proofs.YtkfiahemgdppfaaGreatDoor.Ap Go.Proofs.YtkfiahemgdppfaaGreatDoor.Rq Go.Proofs.YtkfiahemgdppfaaGreatDoor.Ms Go.Proofs.YtkfiahemgdppfaaGreatDoor.Mp Go.Proofs.YtkfiahemgdppfaaGreatDoor.Rp Go.Proofs.YtkfiahemgdppfaaGreatDoor.Lb Go.Proofs.YtkfiahemgdppfaaGreatDoor.Gm
open Go.Proofs.YtkfiahemgdppfaaGreatDoor.Ty (RowT tnth)
open Go.Proofs.YtkfiahemgdppfaaGreatDoor.Tl (OwnS)
open Go.Proofs.YtkfiahemgdppfaaGreatDoor.Rg (RowG RowG.slice RowG.at lt_at mem_at blk_cell bel_new)

def crtV (bd : ByteArray) (vr : Value) : Value := .agg #[.string bd, vr]
/-- A right PbPrepare; a certificate that has its form; its texts. -/
def mB (x : Mg) : Bool := msgB x.kd x.vw x.sq x.fr x.dg x.bd x.mc
def mOK (x : Mg) : Bool := (x.kd == 2) && mB x
def cfB (ms : List Mg) : Bool := decide (ms.length ≤ 7) && ms.all mOK
def mTx (x : Mg) : ByteArray := strOfNums (msgBs x.kd x.vw x.sq x.fr x.dg x.bd x.mc)
def cTs (bd : ByteArray) (ms : List Mg) : List ByteArray := bd :: ms.map mTx
def cOut (bd : ByteArray) (ms : List Mg) : List Int := if cfB ms then lbOut (cTs bd ms) else []
def cCode (bd : ByteArray) (ms : List Mg) : Int := if cfB ms then lbCode (cTs bd ms) else 1
theorem ret_b {a b : Bool} (h : a = b) : Ending.returned (.bool a) = .returned (.bool b) := by rw [h]
theorem all_step {ms : List Mg} {k : Nat} {x : Mg} (h : ms[k]? = some x) : (ms.drop k).all mOK = (mOK x && (ms.drop (k + 1)).all mOK) := by
  obtain ⟨hk, rfl⟩ := List.getElem?_eq_some_iff.1 h
  rw [List.drop_eq_getElem_cons hk, List.all_cons]
theorem all_end {ms : List Mg} : (ms.drop ms.length).all mOK = true := by rw [List.drop_length]; rfl
theorem mTx_size (x : Mg) : (mTx x).size = 7 + x.dg.size + x.bd.size + x.mc.size := by unfold mTx; rw [strOfNums_size, msgBs_length]
theorem ok_size {x : Mg} (h : mOK x = true) : (mTx x).size = 47 ∧ mB x = true := by
  unfold mOK at h
  rw [Bool.and_eq_true, beq_iff_eq] at h
  refine ⟨?_, h.2⟩
  have h2 : msgB x.kd x.vw x.sq x.fr x.dg x.bd x.mc = true := h.2
  obtain ⟨_, _, hm⟩ := msg_small h2
  rw [h.1, msg_eq] at h2
  simp only [Bool.and_eq_true] at h2
  have h5 := h2.2.2.2.2
  rw [kind2, empty_size] at h5
  unfold placeB at h5
  simp only [Bool.and_eq_true, decide_eq_true_eq, beq_iff_eq] at h5
  rw [mTx_size]
  omega
theorem cf_all {ms : List Mg} (h : cfB ms = true) : ms.length ≤ 7 ∧ ∀ x ∈ ms, mOK x = true := by
  unfold cfB at h
  rw [Bool.and_eq_true, decide_eq_true_eq, List.all_eq_true] at h
  exact h
theorem cTs_step {bd : ByteArray} {ms : List Mg} {k : Nat} {x : Mg} (h : ms[k]? = some x) : cTs bd (ms.take (k + 1)) = cTs bd (ms.take k) ++ [mTx x] := by
  unfold cTs
  rw [List.take_add_one, h]
  simp
theorem one_kept {w w1 : World} {x : Mg} (b : Below (w.alloc (.cells #[.int .i64 x.kd, .int .i64 x.vw, .int .i64 x.sq, .int .i64 x.fr, .string x.dg, .string x.bd, .string x.mc] 26)).heap.size (w.alloc (.cells #[.int .i64 x.kd, .int .i64 x.vw, .int .i64 x.sq, .int .i64 x.fr, .string x.dg, .string x.bd, .string x.mc] 26)) w1) : Below w.heap.size w w1 := (bel_new w _).trans (b.mono (by simp))
set_option maxRecDepth 100000 in
set_option maxHeartbeats 800000 in
theorem certFormed_any (bd : ByteArray) (vr : Value) (ms : List Mg) (w : World) (h : Row w vr ms) (hl : ms.length ≤ 1048576) :
    Calls Tryz.prog 118 #[crtV bd vr] w fun e w' => e = .returned (.bool (cfB ms)) ∧ Below w.heap.size w w' := by
  have HR : Hid (Row w vr ms) := h
  obtain ⟨a, cap, rfl⟩ := RowG.slice h
  clear h
  unfold crtV
  have HB : Hid (Below w.heap.size w (w.alloc (.cells #[.string bd, .slice a ms.length cap] 37))) := bel_new _ _
  have HE : Hid (cfB ms = (decide (ms.length ≤ 7) && ms.all mOK)) := rfl
  by_cases h7 : (7 : Int) < (ms.length : Int)
  · rw [decide_eq_false (by omega : ¬ ms.length ≤ 7)] at HE
    go_enter Tryz.func118, Tryz.ntmps118
    go_wp2_with fail
    go_ret
    exact ⟨ret_b (by rw [HE.out]; rfl), HB.out⟩
  rw [decide_eq_true (by omega : ms.length ≤ 7), Bool.true_and] at HE
  go_enter Tryz.func118, Tryz.ntmps118
  go_wp2_with fail
  go_loopw [12] (fun i wr => ∃ k : Nat, k ≤ ms.length ∧ i = .int .i64 k ∧ Hid (ms.all mOK = (ms.drop k).all mOK ∧ Below w.heap.size w wr)) (fun i _ => ms.length - (intOf i).toNat)
  case atStart => exact ⟨0, by omega, rfl, ⟨by rw [List.drop_zero], HB.out⟩⟩
  case round =>
    obtain ⟨k, hk, rfl, HZ⟩ := hrel
    by_cases hlt : k < ms.length
    · obtain ⟨x, hx⟩ := Rg.get_at hlt
      obtain ⟨b, off, rfl, hbl, c0, c1, c2, c3, c4, c5, c6⟩ := RowG.at (HR.out.below HZ.out.2) rfl hx
      have HX : Hid (ms.all mOK = (mOK x && (ms.drop (k + 1)).all mOK)) := HZ.out.1.trans (all_step hx)
      have HBW : Hid (Below w.heap.size w (wr.alloc (.cells #[.int .i64 x.kd, .int .i64 x.vw, .int .i64 x.sq, .int .i64 x.fr, .string x.dg, .string x.bd, .string x.mc] 26))) := HZ.out.2.alloc HZ.out.2.size _
      have HMO : Hid (Calls Tryz.prog 95 #[.agg #[.int .i64 x.kd, .int .i64 x.vw, .int .i64 x.sq, .int .i64 x.fr, .string x.dg, .string x.bd, .string x.mc]] (wr.alloc (.cells #[.int .i64 x.kd, .int .i64 x.vw, .int .i64 x.sq, .int .i64 x.fr, .string x.dg, .string x.bd, .string x.mc] 26)) fun e w' => e = .returned (.bool (mB x)) ∧ Below (wr.alloc (.cells #[.int .i64 x.kd, .int .i64 x.vw, .int .i64 x.sq, .int .i64 x.fr, .string x.dg, .string x.bd, .string x.mc] 26)).heap.size (wr.alloc (.cells #[.int .i64 x.kd, .int .i64 x.vw, .int .i64 x.sq, .int .i64 x.fr, .string x.dg, .string x.bd, .string x.mc] 26)) w') := implMessageOK_any x.kd x.vw x.sq x.fr x.dg x.bd x.mc _
      have HOE : Hid (mOK x = ((x.kd == 2) && mB x)) := rfl
      clear hx HZ
      by_cases hkd : x.kd = 2
      · have hk1 : (x.kd != 2) = false := by simp [hkd]
        have hk2 : (x.kd == 2) = true := by simp [hkd]
        rw [hk2, Bool.true_and] at HOE
        clear hkd
        cases hm : mB x with
        | false =>
          rw [hm] at HMO HOE
          have HF : Hid (ms.all mOK = false) := by show _ = _; rw [HX.out, HOE.out]; rfl
          go_wp2_with fail
          refine HMO.out.mono ?_
          rintro e w2 ⟨rfl, b2⟩
          have B2 : Hid (Below w.heap.size w w2) := HBW.out.trans (b2.mono HBW.out.size)
          clear b2
          go_wp2_with fail
          go_ret
          exact ⟨ret_b (by rw [HE.out, HF.out]), B2.out⟩
        | true =>
          rw [hm] at HMO HOE
          have HF : Hid (ms.all mOK = (ms.drop (k + 1)).all mOK) := by show _ = _; rw [HX.out, HOE.out]; rfl
          go_wp2_with fail
          refine HMO.out.mono ?_
          rintro e w2 ⟨rfl, b2⟩
          have B2 : Hid (Below w.heap.size w w2) := HBW.out.trans (b2.mono HBW.out.size)
          clear b2
          go_wp2_with fail
          exact ⟨⟨k + 1, by omega, by go_num, ⟨HF.out, B2.out⟩⟩, by simp [intOf]; omega⟩
      · have hk1 : (x.kd != 2) = true := by simp [hkd]
        have hk2 : (x.kd == 2) = false := by simp [hkd]
        rw [hk2, Bool.false_and] at HOE
        have HF : Hid (ms.all mOK = false) := by show _ = _; rw [HX.out, HOE.out]; rfl
        clear hkd
        go_wp2_with fail
        go_ret
        exact ⟨ret_b (by rw [HE.out, HF.out]), HBW.out⟩
    · obtain rfl : k = ms.length := by omega
      have HF : Hid (ms.all mOK = true) := HZ.out.1.trans all_end
      go_wp2_with fail
      go_ret
      exact ⟨ret_b (by rw [HE.out, HF.out]), HZ.out.2⟩
/-- One text more. -/
theorem list_txt {P : Program} {ops : Array Oper} {rest : List Oper} {o : Oper} {a : Act} {Q : Exit → Act → World → Prop} (hgd : o.guard = none) (s x : Operand) (t : TypeId)
    (ho : o.op = .call { callee := .builtin .append, args := #[s, x], argTypes := #[t, t] }) (i : TypeInfo) (ht : P.underlying t = some (.slice 9)) (hi : P.info? 9 = some i) (hz : i.zero = some (.string ⟨#[]⟩))
    (hsize : i.size = 1) (hby : i.bytes = 16) (B : Nat) (w0 W : World) (v : Value) (ts : List ByteArray) (z : ByteArray) (hs : a.eval s = v) (hown : OwnS W B v ts) (hg0 : Below B w0 W) (hB : B ≤ W.heap.size)
    (hx : a.eval x = .slice (some ⟨W.heap.size, 0, none⟩) 1 1) (hlen : ts.length ≤ 1000000)
    (h : ∀ v' w', OwnS w' B v' (ts ++ [z]) → Below B w0 w' → wpList P ops Q rest (a.put o.dst v') w') : wpList P ops Q (o :: rest) a (W.alloc (.cells #[.string z] 9)) := by
  have hown' : OwnS (W.alloc (.cells #[.string z] 9)) B v ts := hown.alloc _
  refine wpList_append_own_at (P := P) _ hgd s x t ho B 9 i (.string ⟨#[]⟩) 1 16 ht hi hz hsize hby rfl (by decide) v ts.length _ hs hown' ⟨W.heap.size, 0, none⟩ 1 1 [.string z] hx (by simp) (cell_one_new _ _ _) ?_ (by unfold maxLen; omega) (by omega) (by simp; omega) ?_
  · intro c hc
    simp at hc
    subst hc
    rfl
  · intro v' w' h1 h2 h3 h4
    exact h v' w' (by unfold OwnS; simpa using h1) ((hg0.alloc hB _).grown h2 (by simp; omega) (fun k hk => (hown'.lt k hk).1))
theorem own_txt1 (w : World) (B : Nat) (z : ByteArray) (hB : B ≤ w.heap.size) : OwnS (w.alloc (.cells #[.string z] 9)) B (.slice (some ⟨w.heap.size, 0, none⟩) 1 1) [z] :=
  ⟨rfl, .inr ⟨w.heap.size, 1, #[.string z], rfl, hB, heap_alloc_new w _, Nat.le_refl _, by unfold maxLen; decide, rfl, rfl⟩⟩
end Go.Proofs.YtkfiahemgdppfaaGreatDoor.Cb

/- Certificates' bytes, of the program and of the specification. -/
namespace Go.Proofs.YtkfiahemgdppfaaGreatDoor.Cb
open Go.RowKit Go.Proofs.YtkfiahemgdppfaaGreatDoor.Sl Go.Proofs.YtkfiahemgdppfaaGreatDoor.By Go.Proofs.YtkfiahemgdppfaaGreatDoor.Ap Go.Proofs.YtkfiahemgdppfaaGreatDoor.Rq Go.Proofs.YtkfiahemgdppfaaGreatDoor.Ms Go.Proofs.YtkfiahemgdppfaaGreatDoor.Mp Go.Proofs.YtkfiahemgdppfaaGreatDoor.Rp Go.Proofs.YtkfiahemgdppfaaGreatDoor.Lb Go.Proofs.YtkfiahemgdppfaaGreatDoor.Gm
open Go.Proofs.YtkfiahemgdppfaaGreatDoor.Ty (RowT tnth)
open Go.Proofs.YtkfiahemgdppfaaGreatDoor.Tl (OwnS)
open Go.Proofs.YtkfiahemgdppfaaGreatDoor.Rg (RowG RowG.slice RowG.at lt_at mem_at blk_cell bel_new)

theorem info_s : (Tryz.prog.info? 9).map (fun i => (i.zero, i.size, i.bytes)) = some (some (.string ⟨#[]⟩), 1, 16) := by kernel_rfl
theorem tnth_cases (bd : ByteArray) (ms : List Mg) (j : Nat) (hj : j < (cTs bd ms).length) : tnth (cTs bd ms) j = bd ∨ ∃ x ∈ ms, tnth (cTs bd ms) j = mTx x := by
  unfold tnth cTs at *
  cases j with
  | zero => exact .inl rfl
  | succ k =>
    have hk : k < ms.length := by simpa using hj
    refine .inr ⟨ms[k], List.getElem_mem hk, ?_⟩
    rw [List.getD_cons_succ, List.getD_eq_getElem?_getD, List.getElem?_map, List.getElem?_eq_getElem hk]
    rfl
theorem cTs_len (bd : ByteArray) (ms : List Mg) : (cTs bd ms).length = ms.length + 1 := by unfold cTs; simp
theorem lenTo_le (bd : ByteArray) (ms : List Mg) (h : cfB ms = true) (hb : bd.size ≤ 20000) : ∀ k, k ≤ (cTs bd ms).length → lenTo (cTs bd ms) k ≤ 1 + 20002 * k ∧ (1 ≤ k → lenTo (cTs bd ms) k ≤ 1 + 20002 + 49 * (k - 1))
  | 0, _ => ⟨by unfold lenTo; omega, fun h => by omega⟩
  | k + 1, hk => by
    have ih := lenTo_le bd ms h hb k (by omega)
    have hs : (tnth (cTs bd ms) k).size ≤ 20000 ∧ (1 ≤ k → (tnth (cTs bd ms) k).size = 47) := by
      cases k with
      | zero => exact ⟨hb, fun h => by omega⟩
      | succ q =>
        have hq : q < ms.length := by have := cTs_len bd ms; omega
        have e : tnth (cTs bd ms) (q + 1) = mTx ms[q] := by
          unfold tnth cTs
          rw [List.getD_cons_succ, List.getD_eq_getElem?_getD, List.getElem?_map, List.getElem?_eq_getElem hq]
          rfl
        have := (ok_size ((cf_all h).2 _ (List.getElem_mem hq))).1
        rw [e]
        omega
    unfold lenTo
    refine ⟨by omega, fun _ => ?_⟩
    by_cases hk0 : k = 0
    · subst hk0
      have : lenTo (cTs bd ms) 0 = 1 := rfl
      omega
    · have h1 := ih.2 (by omega)
      have h2 := hs.2 (by omega)
      omega
theorem lenTo_ok (bd : ByteArray) (ms : List Mg) (h : cfB ms = true) (hb : bd.size ≤ 20000) (k : Nat) (hk : k ≤ (cTs bd ms).length) : lenTo (cTs bd ms) k ≤ 65536 := by
  have h1 := lenTo_le bd ms h hb k hk
  have h2 := (cf_all h).1
  have h3 := cTs_len bd ms
  by_cases hk0 : k = 0
  · omega
  · have := h1.2 (by omega)
    omega
theorem c_good (bd : ByteArray) (ms : List Mg) (h : cfB ms = true) (hb : bd.size ≤ 20000) : cCode bd ms = 0 ∧ cOut bd ms = listTo (cTs bd ms) (cTs bd ms).length := by
  have h2 := (cf_all h).1
  have h3 := cTs_len bd ms
  have := lb_good (cTs bd ms) (by omega) (fun j hj => by
    unfold bad
    rw [Bool.or_eq_false_iff, decide_eq_false_iff_not, decide_eq_false_iff_not]
    refine ⟨?_, by have := lenTo_ok bd ms h hb (j + 1) (by omega); omega⟩
    rcases tnth_cases bd ms j hj with e | ⟨x, hx, e⟩
    · rw [e]; omega
    · rw [e, (ok_size ((cf_all h).2 x hx)).1]; omega)
  unfold cCode cOut
  rw [h]
  exact this
theorem c_big (bd : ByteArray) (ms : List Mg) (hb : 20000 < bd.size) : cCode bd ms = 1 ∧ cOut bd ms = [] := by
  unfold cCode cOut
  cases h : cfB ms with
  | false => exact ⟨rfl, rfl⟩
  | true =>
    have h2 := (cf_all h).1
    have h3 := cTs_len bd ms
    have e0 : tnth (cTs bd ms) 0 = bd := rfl
    obtain ⟨h4, h5⟩ := lb_bad (cTs bd ms) 0 (by omega) (by omega) (fun j hj => by omega) (by unfold bad; rw [e0, decide_eq_true hb]; rfl)
    refine ⟨?_, h5⟩
    show lbCode (cTs bd ms) = 1
    rw [h4]
    unfold cd
    rw [e0, if_pos hb]
theorem c_no (bd : ByteArray) (ms : List Mg) (h : cfB ms = false) : cCode bd ms = 1 ∧ cOut bd ms = [] := by
  unfold cCode cOut; rw [h]; exact ⟨rfl, rfl⟩
end Go.Proofs.YtkfiahemgdppfaaGreatDoor.Cb
