/- Texts put together: Rl2, Rc, Rc2, Rc3. -/
import Derived.Test.YtddmdnljfnimbaaGreatDoorM21
import Derived.Deep.RegionWith
import Derived.Test.YtddmdnljfnimbaaGreatDoorM17
import Derived.Test.YtddmdnljfnimbaaGreatDoorM15
import Derived.Lib.ConvBytes
/- Both ReadList functions; the laws' marks on a list that was handed out. -/
namespace Go.Proofs.YtddmdnljfnimbaaGreatDoor.Rl
open Go.RowKit Go.Proofs.YtddmdnljfnimbaaGreatDoor.Sl Go.Proofs.YtddmdnljfnimbaaGreatDoor.By Go.Proofs.YtddmdnljfnimbaaGreatDoor.Ap Go.Proofs.YtddmdnljfnimbaaGreatDoor.Rq Go.Proofs.YtddmdnljfnimbaaGreatDoor.Rr Go.Proofs.YtddmdnljfnimbaaGreatDoor.Ty Go.Proofs.YtddmdnljfnimbaaGreatDoor.Tl Go.Proofs.YtddmdnljfnimbaaGreatDoor.Of Go.Proofs.YtddmdnljfnimbaaGreatDoor.Mk

def rdC (xs : List Int) : Int := rlC (decide (65536 < xs.length)) (rdOk xs)
def rdL (xs : List Int) : List ByteArray := rlO (decide (65536 < xs.length)) (rdOk xs) (lT (tkR 1 xs) (tlN xs))
theorem txt_small (xs : List Int) (hr : ∀ x ∈ xs, 0 ≤ x ∧ x ≤ 255) : (txtB 2 xs).size ≤ 65535 := by
  unfold txtB
  rw [strOfNums_size]
  exact Nat.le_trans (tkB_len _ _) (txtN_le 2 xs (by decide) hr).1
theorem rdL_small (xs : List Int) (hr : ∀ x ∈ xs, 0 ≤ x ∧ x ≤ 255) : (rdL xs).length ≤ 65535 := by
  unfold rdL rlO
  split
  · rw [lT_length]; exact (tlN_le xs hr).1
  · simp

set_option maxHeartbeats 400000 in
theorem implReadList_any (v : Value) (xs : List Int) (w : World) (h : RowB w v xs) (hl : xs.length ≤ 1048576) :
    Calls Tryz.prog 58 #[v] w fun e w' => ∃ v', e = .returned (.tuple #[v', .int .i64 (rdC xs)]) ∧ OwnS w' w.heap.size v' (rdL xs) ∧ Below w.heap.size w w' := by
  have hr : ∀ x ∈ xs, 0 ≤ x ∧ x ≤ 255 := by obtain ⟨_, _, _, _, h⟩ := h; exact h
  have HR : Hid (RowB w v xs) := h
  have H1 : Hid ((lT (tkR 1 xs) (tlN xs)).length ≤ 1048576) := by show _ ≤ _; rw [lT_length]; have := (tlN_le xs hr).1; omega
  have H2 : Hid (∀ i, i < (lT (tkR 1 xs) (tlN xs)).length → (tnth (lT (tkR 1 xs) (tlN xs)) i).size ≤ 1048576) := fun i hi => by
    rw [lT_length] at hi
    rw [lT_at _ _ _ hi]
    have := txt_small _ (lR_range (tkR_range (n := 1) hr) i)
    omega
  clear h hr
  go_enter Tryz.func58, Tryz.ntmps58
  go_wp2_with fail
  refine (readJustList_gen _ xs _ HR.out hl (lT (tkR 1 xs) (tlN xs)) (lR (tkR 1 xs) (tlN xs)) (lS (tkR 1 xs) (tkS 1 xs false) (tlN xs)) H1.out H2.out (fun W p B h1 h2 h3 h4 => takeList_any p B xs false W h1 h2 h3 h4)).mono ?_
  rintro e w1 ⟨v1, rfl, o1, b1⟩
  have O1 : Hid (OwnS w1 w.heap.size v1 (rdL xs)) := o1
  have EC : Hid (rlC (decide (65536 < xs.length)) (!lS (tkR 1 xs) (tkS 1 xs false) (tlN xs) && ((lR (tkR 1 xs) (tlN xs)).isEmpty && okT (lT (tkR 1 xs) (tlN xs)))) = rdC xs) := rfl
  rw [EC.out]
  clear o1 EC
  go_wp2_with fail
  go_ret2
  exact ⟨_, rfl, O1.out, b1⟩

end Go.Proofs.YtddmdnljfnimbaaGreatDoor.Rl

/- Messages in a row of one's own; one message read off a text, by the program and by the specification. -/
namespace Go.Proofs.YtddmdnljfnimbaaGreatDoor.Rc
open Go.RowKit Go.Proofs.YtddmdnljfnimbaaGreatDoor.Sl Go.Proofs.YtddmdnljfnimbaaGreatDoor.By Go.Proofs.YtddmdnljfnimbaaGreatDoor.Ap Go.Proofs.YtddmdnljfnimbaaGreatDoor.Rq Go.Proofs.YtddmdnljfnimbaaGreatDoor.Rr Go.Proofs.YtddmdnljfnimbaaGreatDoor.Of Go.Proofs.YtddmdnljfnimbaaGreatDoor.Om Go.Proofs.YtddmdnljfnimbaaGreatDoor.Ms Go.Proofs.YtddmdnljfnimbaaGreatDoor.Gm Go.Proofs.YtddmdnljfnimbaaGreatDoor.Cb
open Go.Proofs.YtddmdnljfnimbaaGreatDoor.Ty (RowT tnth)
open Go.Proofs.YtddmdnljfnimbaaGreatDoor.Tl (OwnS)
open Go.Proofs.YtddmdnljfnimbaaGreatDoor.Rg (RowG RowG.slice RowG.at lt_at mem_at bel_new)

def cl (x : Mg) : List Value := [.int .i64 x.kd, .int .i64 x.vw, .int .i64 x.sq, .int .i64 x.fr, .string x.dg, .string x.bd, .string x.mc]
theorem cl_len (x : Mg) : (cl x).length = 7 := rfl
theorem cl_one (x : Mg) : ∀ u ∈ cl x, u.oneCell' = true := by
  intro u hu
  unfold cl at hu
  simp only [List.mem_cons, List.not_mem_nil, or_false] at hu
  rcases hu with h | h | h | h | h | h | h <;> (rw [h]; rfl)
theorem fm_len : ∀ (ms : List Mg), (ms.flatMap cl).length = ms.length * 7
  | [] => rfl
  | x :: xs => by rw [List.flatMap_cons, List.length_append, fm_len xs, cl_len, List.length_cons]; omega
theorem fm_at : ∀ (ms : List Mg) (i : Nat) (x : Mg) (j : Nat), ms[i]? = some x → j < 7 → (ms.flatMap cl)[i * 7 + j]? = (cl x)[j]?
  | [], i, x, j, h, _ => by simp at h
  | y :: ys, 0, x, j, h, hj => by
    simp at h
    subst h
    rw [List.flatMap_cons, Nat.zero_mul, Nat.zero_add, List.getElem?_append_left (by rw [cl_len]; exact hj)]
  | y :: ys, i + 1, x, j, h, hj => by
    have h' : ys[i]? = some x := by simpa using h
    rw [List.flatMap_cons, List.getElem?_append_right (by rw [cl_len]; omega), cl_len, show (i + 1) * 7 + j - 7 = i * 7 + j by omega]
    exact fm_at ys i x j h' hj
/-- Messages in a slice of the call's own. -/
def OwnM (w : World) (B : Nat) (v : Value) (ms : List Mg) : Prop := w.ownsRow B 39 7 v ms.length (ms.flatMap cl)
theorem OwnM.row {w : World} {B : Nat} {v : Value} {ms : List Mg} (h : OwnM w B v ms) : Row w v ms := by
  obtain ⟨hl, h⟩ := h
  rcases h with ⟨rfl, h0⟩ | ⟨g, cap, cur, rfl, hB, hg, hc, _, hs, htk⟩
  · exact ⟨none, 0, by rw [h0], .inl (List.length_eq_zero_iff.1 h0)⟩
  · refine ⟨_, cap, rfl, .inr ⟨g, 0, rfl, hc, (Array.getElem?_eq_some_iff.1 hg).1, fun i x hi => ?_⟩⟩
    have hil := lt_at hi
    have key : ∀ j u, j < 7 → (cl x)[j]? = some u → w.cell? ⟨g, 0 + i * 7 + j, none⟩ = some u := fun j u hj hu => by
      rw [Nat.zero_add, Joins.cell_of_block hg, ← Array.getElem?_toList]
      have h1 := fm_at ms i x j hi hj
      rw [← htk, List.getElem?_take, if_pos (by omega)] at h1
      rw [h1, hu]
    exact ⟨key 0 _ (by decide) rfl, key 1 _ (by decide) rfl, key 2 _ (by decide) rfl, key 3 _ (by decide) rfl, key 4 _ (by decide) rfl, key 5 _ (by decide) rfl, key 6 _ (by decide) rfl⟩
theorem OwnM.kept {w w' : World} {B : Nat} {v : Value} {ms : List Mg} (h : OwnM w B v ms) (hk : ∀ g, v.ownBlock = some g → w'.heap[g]? = w.heap[g]?) : OwnM w' B v ms := by
  obtain ⟨hl, h⟩ := h
  refine ⟨hl, ?_⟩
  rcases h with h | ⟨g, cap, cur, rfl, h1, hg, h2⟩
  · exact .inl h
  · exact .inr ⟨g, cap, cur, rfl, h1, (hk g rfl).trans hg, h2⟩
theorem OwnM.lt {w : World} {B : Nat} {v : Value} {ms : List Mg} (h : OwnM w B v ms) : ∀ g, v.ownBlock = some g → B ≤ g ∧ g < w.heap.size := World.ownsRow.lt h
theorem OwnM.below {w w' : World} {B : Nat} {v : Value} {ms : List Mg} (h : OwnM w B v ms) (hb : Below w.heap.size w w') : OwnM w' B v ms := h.kept fun g hg => hb.block g (h.lt g hg).2
theorem OwnM.mono {w : World} {B B' : Nat} {v : Value} {ms : List Mg} (h : OwnM w B v ms) (hb : B' ≤ B) : OwnM w B' v ms := by
  obtain ⟨hl, h⟩ := h
  refine ⟨hl, ?_⟩
  rcases h with h | ⟨g, cap, cur, rfl, h1, hg, h2⟩
  · exact .inl h
  · exact .inr ⟨g, cap, cur, rfl, Nat.le_trans hb h1, hg, h2⟩
theorem OwnM.nil (w : World) (B : Nat) : OwnM w B (.slice none 0 0) [] := World.ownsRow_nil _ _ _ _
theorem OwnM.made (w : World) (B : Nat) (hB : B ≤ w.heap.size) : OwnM (w.alloc (.cells #[] 39)) B (.slice (some ⟨w.heap.size, 0, none⟩) 0 0) [] := World.ownsRow_made w #[] 0 hB (by decide) rfl
theorem OwnM.alloc {w : World} {B : Nat} {v : Value} {ms : List Mg} (h : OwnM w B v ms) (o : Obj) : OwnM (w.alloc o) B v ms := h.below (bel_new _ _)
theorem info_m : (Tryz.prog.info? 39).map (fun i => (i.zero, i.size, i.bytes)) = some (some (.agg #[.int .i64 0, .int .i64 0, .int .i64 0, .int .i64 0, .string ⟨#[]⟩, .string ⟨#[]⟩, .string ⟨#[]⟩]), 7, 80) := by kernel_rfl
/-- Nothing was written but v's own row, and new blocks. -/
def Kq (W w' : World) (v v' : Value) : Prop := ∀ k, k < W.heap.size → some k ≠ v.ownBlock → w'.heap[k]? = W.heap[k]? ∧ some k ≠ v'.ownBlock
/-- One message more. -/
theorem list_msg {P : Program} {ops : Array Oper} {rest : List Oper} {o : Oper} {a : Act} {Q : Exit → Act → World → Prop} (hgd : o.guard = none) (s x : Operand) (t : TypeId)
    (ho : o.op = .call { callee := .builtin .append, args := #[s, x], argTypes := #[t, t] }) (i : TypeInfo) (ht : P.underlying t = some (.slice 39)) (hi : P.info? 39 = some i) (hz : i.zero = some (.agg #[.int .i64 0, .int .i64 0, .int .i64 0, .int .i64 0, .string ⟨#[]⟩, .string ⟨#[]⟩, .string ⟨#[]⟩]))
    (hsize : i.size = 7) (hby : i.bytes = 80) (B : Nat) (w0 W : World) (v : Value) (ms : List Mg) (m : Mg) (hs : a.eval s = v) (hown : OwnM W B v ms) (hg0 : Below B w0 W) (hB : B ≤ W.heap.size)
    (gx : Nat) (hx : a.eval x = .slice (some ⟨gx, 0, none⟩) 1 1) (hgx : W.heap.size = gx) (hlen : ms.length ≤ 1000000)
    (h : ∀ v' w', OwnM w' B v' (ms ++ [m]) → Below B w0 w' → Kq W w' v v' → wpList P ops Q rest (a.put o.dst v') w') : wpList P ops Q (o :: rest) a (W.alloc (.cells #[.int .i64 m.kd, .int .i64 m.vw, .int .i64 m.sq, .int .i64 m.fr, .string m.dg, .string m.bd, .string m.mc] 39)) := by
  subst hgx
  have hown' := hown.alloc (.cells #[.int .i64 m.kd, .int .i64 m.vw, .int .i64 m.sq, .int .i64 m.fr, .string m.dg, .string m.bd, .string m.mc] 39)
  refine wpList_append_own_at (P := P) _ hgd s x t ho B 39 i _ 7 80 ht hi hz hsize hby rfl (by decide) v ms.length _ hs hown' ⟨W.heap.size, 0, none⟩ 1 1 (cl m) hx rfl ?_ (cl_one m) (by unfold maxLen; omega) (by omega) (by simp; omega) ?_
  · intro j u hj
    have h2 : (⟨W.heap.size, 0, none⟩ : Addr).add j = ⟨W.heap.size, j, none⟩ := by unfold Addr.add; split <;> simp_all
    rw [h2, Joins.cell_of_block (heap_alloc_new W _), ← hj]
    simp [cl]
  · intro v' w' h1 h2 h3 h4
    refine h v' w' (by unfold OwnM; rw [List.flatMap_append, List.length_append]; simpa using h1) ((hg0.alloc hB _).grown h2 (by simp; omega) (fun k hk => (hown'.lt k hk).1)) (fun k hk hn => ⟨(h2.block k (by simp; omega) hn).trans (Below.heap_alloc W _ k hk), fun e => ?_⟩)
    rcases h4 with h4 | h4
    · exact hn (e.trans h4)
    · rw [h4] at e
      simp at e
      omega
/-- What one text reads as: the message, and the code. -/
theorem rd_ex (t : ByteArray) : ∃ (m : Mg) (c : Int), readMsg (bys t) = .tuple #[oneV m, .int .i64 c] := by
  obtain ⟨kd, vw, sq, fr, dg, bd, mc, code, h⟩ := readMsg_form (bys t)
  exact ⟨⟨kd, vw, sq, fr, dg, bd, mc⟩, code, h⟩
noncomputable def mOf (t : ByteArray) : Mg := (rd_ex t).choose
noncomputable def cOf (t : ByteArray) : Int := (rd_ex t).choose_spec.choose
theorem rd_eq (t : ByteArray) : readMsg (bys t) = .tuple #[oneV (mOf t), .int .i64 (cOf t)] := (rd_ex t).choose_spec.choose_spec
theorem tup_inj {a b : Value} {c d : Int} (h : Value.tuple #[a, .int .i64 c] = .tuple #[b, .int .i64 d]) : a = b ∧ c = d := by
  injection h with h
  have h2 := congrArg Array.toList h
  simp at h2
  exact h2
theorem one_inj {x y : Mg} (h : oneV x = oneV y) : x = y := by
  unfold oneV at h
  injection h with h
  have h2 := congrArg Array.toList h
  cases x
  cases y
  simp at h2
  simp [h2]
theorem ok_right (t : ByteArray) (h : cOf t = 0) : mB (mOf t) = true := by
  have e := rd_eq t
  rw [h] at e
  unfold readMsg rjV at e
  split at e
  · obtain ⟨_, h2⟩ := tup_inj e
    cases h2
  · split at e
    · rename_i h3
      obtain ⟨h1, _⟩ := tup_inj e
      rw [Bool.and_eq_true, Bool.and_eq_true] at h3
      have h4 := h3.2.2
      have h5 := one_inj (x := ⟨_, _, _, _, _, _, _⟩) h1
      rw [← h5]
      exact h4
    · obtain ⟨_, h2⟩ := tup_inj e
      cases h2
/-- The specification reads it alike. -/
theorem l02ReadMessage_any (s : ByteArray) (w : World) (hs : s.size ≤ 65536) :
    Calls Tryz.prog 76 #[.string s] w fun e w' => (∃ m : Mg, e = .returned (.tuple #[oneV m, .bool (decide (cOf s = 0))]) ∧ (cOf s = 0 → m = mOf s)) ∧ Below w.heap.size w w' := by
  have hr := bys_range s
  have e0 := str_bys s
  have hsz : (bys s).length = s.size := bys_length s
  have hD := mD_lt (bys s) hr
  have hNe := mN_eq (bys s) hr
  have hRE := rd_eq s
  have h4e : ∀ h : 4 < (strOfNums (bys s)).size, ((strOfNums (bys s))[4]'h).toNat = mD (bys s) := by
    intro h
    have := str_at (bys s) hr 4 h
    unfold mD
    omega
  have hz := strOfNums_size (bys s)
  by_cases hyes : (bys s).length = 15 + mD (bys s) + mN (bys s)
  · obtain ⟨e1, e2, e3, e4, e5, e6, e7, e8, e9⟩ := eq_msg_yes (bys s) hr hyes
    have HY := l02ReadMessage_yes (strOfNums (bys s)) w (mD (bys s)) (mN (bys s)) (by omega) (by omega) (h4e (by omega)) hNe (by omega)
    have HE : readMsg (bys s) = if msgB (nth (bys (strOfNums (bys s))) 0) (nth (bys (strOfNums (bys s))) 1) (nth (bys (strOfNums (bys s))) 2) (nth (bys (strOfNums (bys s))) 3) ((strOfNums (bys s)).extract 5 (5 + mD (bys s))) ((strOfNums (bys s)).extract (5 + mD (bys s) + 2) (5 + mD (bys s) + 2 + mN (bys s))) ((strOfNums (bys s)).extract (5 + mD (bys s) + 2 + mN (bys s)) (strOfNums (bys s)).size) then .tuple #[.agg #[.int .i64 (nth (bys (strOfNums (bys s))) 0), .int .i64 (nth (bys (strOfNums (bys s))) 1), .int .i64 (nth (bys (strOfNums (bys s))) 2), .int .i64 (nth (bys (strOfNums (bys s))) 3), .string ((strOfNums (bys s)).extract 5 (5 + mD (bys s))), .string ((strOfNums (bys s)).extract (5 + mD (bys s) + 2) (5 + mD (bys s) + 2 + mN (bys s))), .string ((strOfNums (bys s)).extract (5 + mD (bys s) + 2 + mN (bys s)) (strOfNums (bys s)).size)], .int .i64 0] else .tuple #[.agg zmsg, .int .i64 3] := by
      unfold readMsg; rw [e1, e2, e3, e4, e5, e6, e7, e8, e9, decide_eq_false (by omega)]; rfl
    rw [hRE] at HE
    clear e1 e2 e3 e4 e5 e6 e7 e8 e9 hyes h4e hNe hD
    generalize (strOfNums (bys s)).extract 5 (5 + mD (bys s)) = dg at HE HY
    generalize (strOfNums (bys s)).extract (5 + mD (bys s) + 2 + mN (bys s)) (strOfNums (bys s)).size = mc at HE HY
    generalize (strOfNums (bys s)).extract (5 + mD (bys s) + 2) (5 + mD (bys s) + 2 + mN (bys s)) = bd at HE HY
    generalize nth (bys (strOfNums (bys s))) 0 = kd at HE HY
    generalize nth (bys (strOfNums (bys s))) 1 = vw at HE HY
    generalize nth (bys (strOfNums (bys s))) 2 = sq at HE HY
    generalize nth (bys (strOfNums (bys s))) 3 = fr at HE HY
    rw [e0] at HY
    refine HY.mono ?_
    rintro e w' ⟨rfl, b⟩
    refine ⟨⟨⟨kd, vw, sq, fr, dg, bd, mc⟩, ?_, fun hc => ?_⟩, b⟩
    · cases hq : msgB kd vw sq fr dg bd mc with
      | true =>
        rw [hq] at HE
        obtain ⟨_, h2⟩ := tup_inj HE
        rw [decide_eq_true h2]
        rfl
      | false =>
        rw [hq] at HE
        obtain ⟨_, h2⟩ := tup_inj HE
        rw [decide_eq_false (by omega)]
        rfl
    · cases hq : msgB kd vw sq fr dg bd mc with
      | true =>
        rw [hq] at HE
        obtain ⟨h1, _⟩ := tup_inj HE
        exact (one_inj (x := mOf s) (y := ⟨kd, vw, sq, fr, dg, bd, mc⟩) h1).symm
      | false =>
        rw [hq] at HE
        obtain ⟨_, h2⟩ := tup_inj HE
        omega
  · have hno : ∀ h : 4 < (strOfNums (bys s)).size, (strOfNums (bys s)).size < 7 ∨ (strOfNums (bys s)).size < 7 + ((strOfNums (bys s))[4]'h).toNat ∨ (7 + ((strOfNums (bys s))[4]'h).toNat ≤ (strOfNums (bys s)).size ∧ ((strOfNums (bys s)).size : Int) ≠ 5 + (((strOfNums (bys s))[4]'h).toNat : Int) + 2 + beN (bys ((strOfNums (bys s)).extract (5 + ((strOfNums (bys s))[4]'h).toNat) (5 + ((strOfNums (bys s))[4]'h).toNat + 2))) + 8) := by
      intro h
      rw [h4e h, hNe]
      omega
    have HN : readMsg (bys s) = .tuple #[.agg zmsg, .int .i64 3] := by unfold readMsg; rw [eq_msg_no (bys s) hyes, decide_eq_false (by omega)]; rfl
    have HY := l02ReadMessage_no (strOfNums (bys s)) w (by omega) hno
    rw [hRE] at HN
    obtain ⟨_, h2⟩ := tup_inj HN
    rw [e0] at HY
    refine HY.mono ?_
    rintro e w' ⟨rfl, b⟩
    refine ⟨⟨⟨0, 0, 0, 0, ⟨#[]⟩, ⟨#[]⟩, ⟨#[]⟩⟩, ?_, fun hc => by omega⟩, b⟩
    rw [decide_eq_false (by omega)]
    rfl
end Go.Proofs.YtddmdnljfnimbaaGreatDoor.Rc

/- Certificates are read: the program. -/
namespace Go.Proofs.YtddmdnljfnimbaaGreatDoor.Rc
open Go.RowKit Go.Proofs.YtddmdnljfnimbaaGreatDoor.Sl Go.Proofs.YtddmdnljfnimbaaGreatDoor.By Go.Proofs.YtddmdnljfnimbaaGreatDoor.Ap Go.Proofs.YtddmdnljfnimbaaGreatDoor.Rq Go.Proofs.YtddmdnljfnimbaaGreatDoor.Rr Go.Proofs.YtddmdnljfnimbaaGreatDoor.Of Go.Proofs.YtddmdnljfnimbaaGreatDoor.Om Go.Proofs.YtddmdnljfnimbaaGreatDoor.Ms Go.Proofs.YtddmdnljfnimbaaGreatDoor.Gm Go.Proofs.YtddmdnljfnimbaaGreatDoor.Cb
open Go.Proofs.YtddmdnljfnimbaaGreatDoor.Ty (RowT tnth)
open Go.Proofs.YtddmdnljfnimbaaGreatDoor.Tl (OwnS)
open Go.Proofs.YtddmdnljfnimbaaGreatDoor.Rl (rdC rdL implReadList_any)
open Go.Proofs.YtddmdnljfnimbaaGreatDoor.Rg (RowG RowG.slice RowG.at lt_at mem_at bel_new)

theorem bytes_run (s : ByteArray) (w : World) : ∃ v' w', (convert 9 91 (.string s)).run Tryz.prog w = .ok v' w' ∧ RowB w' v' (bys s) ∧ Below w.heap.size w w' := by
  refine ⟨_, _, Lib.run_convert_string_bytes w 9 91 5 s (u := .string) Tryz.underlying9 Tryz.underlying91 Tryz.underlying5, ⟨_, _, by rw [bys_length], .inr ⟨w.heap.size, 0, rfl, by rw [bys_length]; exact grownCap_ge _ _ _ _, by rw [Lib.bytesWorld_size]; omega, fun i hi => ?_⟩, bys_range s⟩, ?_⟩
  · rw [bys_length] at hi
    rw [Nat.zero_add, Lib.bytesWorld_cell w 5 s i hi]
    unfold nth bys
    have hi' : i < s.data.toList.length := by simpa using hi
    rw [List.getD_eq_getElem?_getD, List.getD_eq_getElem?_getD, List.getElem?_map, List.getElem?_eq_getElem hi']
    rfl
  · refine ⟨?_, ?_, ?_, by rw [Lib.bytesWorld_size]; omega, fun k hk => Lib.bytesWorld_at_old w _ s k hk⟩ <;> simp [Lib.bytesWorld, World.freeze, World.alloc, World.drew, -World.alloc_eq, -World.drew_eq]
noncomputable def okT1 (t : ByteArray) : Bool := decide (cOf t = 0)
noncomputable def allOK (ts : List ByteArray) : Bool := ts.all okT1
noncomputable def msOf (ts : List ByteArray) : List Mg := ts.map mOf
noncomputable def rmOut (ts : List ByteArray) : List Mg := if allOK ts then msOf ts else []
theorem at_some {ts : List ByteArray} {k : Nat} (h : k < ts.length) : ts[k]? = some (tnth ts k) := by
  unfold tnth; rw [List.getD_eq_getElem?_getD, List.getElem?_eq_getElem h]; rfl
theorem ok_step {ts : List ByteArray} {k : Nat} (h : k < ts.length) : allOK (ts.drop k) = (okT1 (tnth ts k) && allOK (ts.drop (k + 1))) := by
  have e := at_some h
  obtain ⟨hk, e2⟩ := List.getElem?_eq_some_iff.1 e
  unfold allOK
  rw [List.drop_eq_getElem_cons hk, List.all_cons, e2]
theorem ms_step {ts : List ByteArray} {k : Nat} (h : k < ts.length) : msOf (ts.take (k + 1)) = msOf (ts.take k) ++ [mOf (tnth ts k)] := by
  unfold msOf
  rw [List.take_add_one, at_some h]
  simp
theorem ret_vb {v : Value} {a b : Bool} (h : a = b) : Ending.returned (.tuple #[v, .bool a]) = .returned (.tuple #[v, .bool b]) := by rw [h]
set_option maxRecDepth 100000 in
set_option maxHeartbeats 1600000 in
theorem readMessages_any (v : Value) (ts : List ByteArray) (w : World) (h : RowT w v ts) (hl : ts.length ≤ 1000000) (hs : ∀ t ∈ ts, t.size ≤ 1048576) :
    Calls Tryz.prog 101 #[v] w fun e w' => ∃ v', e = .returned (.tuple #[v', .bool (allOK ts)]) ∧ OwnM w' w.heap.size v' (rmOut ts) ∧ Below w.heap.size w w' := by
  obtain ⟨i0, hi0, hz0, hz1, hz2⟩ := info_parts info_m
  have HR : Hid (RowT w v ts) := h
  obtain ⟨a, cap, rfl, _⟩ := h
  have HS : Hid (∀ t ∈ ts, t.size ≤ 1048576) := hs
  clear hs
  go_enter Tryz.func101, Tryz.ntmps101
  go_wp2_with fail
  go_loopw [4, 11] (fun b i wr => ∃ k : Nat, k ≤ ts.length ∧ i = .int .i64 k ∧ Hid (OwnM wr w.heap.size b (msOf (ts.take k)) ∧ allOK ts = allOK (ts.drop k) ∧ Below w.heap.size w wr)) (fun _ i _ => ts.length - (intOf i).toNat)
  case atStart => exact ⟨0, by omega, rfl, ⟨OwnM.nil _ _, by rw [List.drop_zero], Below.refl _ _⟩⟩
  case round =>
    obtain ⟨k, hk, rfl, HO⟩ := hrel
    obtain ⟨v0, rfl⟩ : ∃ v0, v0 = u4 := ⟨_, rfl⟩
    by_cases hlt : k < ts.length
    · obtain ⟨a', cap', he, hc⟩ := HR.out.below HO.out.2.2
      rcases hc with hc | ⟨b, off, rfl, _, hbl, hcell⟩
      · exact absurd hlt (by rw [hc]; simp)
      cases he
      have c0 := hcell k hlt
      have HST := ok_step hlt
      have HMS := ms_step hlt
      have HTS : Hid ((tnth ts k).size ≤ 1048576) := HS.out _ (List.mem_of_getElem? (at_some hlt))
      have HLN : Hid ((msOf (ts.take k)).length ≤ 1000000) := by show _ ≤ _; unfold msOf; rw [List.length_map, List.length_take]; omega
      have HSTP : Hid (allOK (ts.drop k) = (okT1 (tnth ts k) && allOK (ts.drop (k + 1)))) := HST
      have HMSP : Hid (msOf (ts.take (k + 1)) = msOf (ts.take k) ++ [mOf (tnth ts k)]) := HMS
      clear hcell HST HMS
      generalize tnth ts k = t at c0 HSTP HMSP HTS
      obtain ⟨v2, w2, hcv, r2, b2⟩ := bytes_run t wr
      have HRM := implReadMessage_any v2 (bys t) w2 r2 (by rw [bys_length]; exact HTS.out)
      rw [rd_eq] at HRM
      have HCE : Hid (okT1 t = decide (cOf t = 0)) := rfl
      have B2 : Hid (Below wr.heap.size wr w2) := b2
      have HRM2 : Hid (Calls Tryz.prog 120 #[v2] w2 fun e w' => e = .returned (.tuple #[oneV (mOf t), .int .i64 (cOf t)]) ∧ Below w2.heap.size w2 w') := HRM
      clear r2 b2 HRM
      generalize mOf t = m at HRM2 HMSP
      generalize cOf t = cd at HRM2 HCE
      generalize okT1 t = ok1 at HSTP HCE
      unfold oneV at HRM2
      go_wp2_with fail
      refine HRM2.out.mono ?_
      rintro e w3 ⟨rfl, b3⟩
      have B3 : Hid (Below wr.heap.size wr w3) := B2.out.trans (b3.mono B2.out.size)
      clear b3 HRM2 hcv c0
      by_cases hcd : cd = 0
      · rw [decide_eq_true hcd] at HCE
        have HA : Hid (allOK ts = allOK (ts.drop (k + 1))) := by show _ = _; rw [HO.out.2.1, HSTP.out, HCE.out]; rfl
        have hcd' : (cd != 0) = false := by simp [hcd]
        have b4 := B3.out.trans ((bel_new w3 (.cells #[.int .i64 m.kd, .int .i64 m.vw, .int .i64 m.sq, .int .i64 m.fr, .string m.dg, .string m.bd, .string m.mc] 39)).mono B3.out.size)
        have O4 : Hid (OwnM (w3.alloc (.cells #[.int .i64 m.kd, .int .i64 m.vw, .int .i64 m.sq, .int .i64 m.fr, .string m.dg, .string m.bd, .string m.mc] 39)) w.heap.size v0 (msOf (ts.take k)) ∧ Below w.heap.size w (w3.alloc (.cells #[.int .i64 m.kd, .int .i64 m.vw, .int .i64 m.sq, .int .i64 m.fr, .string m.dg, .string m.bd, .string m.mc] 39))) := ⟨HO.out.1.below b4, HO.out.2.2.trans (b4.mono HO.out.2.2.size)⟩
        clear hcd HCE HSTP HO B2 B3 b4
        go_wp2_with (at_builtin; go_must (refine list_msg (by rfl) _ _ 27 (by rfl) i0 Tryz.underlying27 hi0 hz0 hz1 hz2 w.heap.size w _ _ _ m (by rfl) O4.out.1 O4.out.2 O4.out.2.size _ (by rfl) (by simp) HLN.out ?_; intro v5 w5 o5 b5 _))
        exact ⟨⟨k + 1, by omega, by go_num, ⟨by rw [HMSP.out]; exact o5, HA.out, b5⟩⟩, by simp [intOf]; omega⟩
      · rw [decide_eq_false hcd] at HCE
        have HA : Hid (allOK ts = false) := by show _ = _; rw [HO.out.2.1, HSTP.out, HCE.out]; rfl
        have HA2 : Hid (rmOut ts = []) := by show _ = _; unfold rmOut; rw [HA.out]; rfl
        have hcd' : (cd != 0) = true := by simp [hcd]
        have B4 : Hid (Below w.heap.size w (w3.alloc (.cells #[.int .i64 m.kd, .int .i64 m.vw, .int .i64 m.sq, .int .i64 m.fr, .string m.dg, .string m.bd, .string m.mc] 39))) := HO.out.2.2.trans ((B3.out.trans ((bel_new w3 _).mono B3.out.size)).mono HO.out.2.2.size)
        clear hcd HCE HSTP HO B2 B3
        go_wp2_with fail
        go_ret2
        exact ⟨_, ret_vb HA.out.symm, by rw [HA2.out]; exact OwnM.nil _ _, B4.out⟩
    · obtain rfl : k = ts.length := by omega
      rw [List.take_length, List.drop_length] at HO
      have HA : Hid (allOK ts = true) := HO.out.2.1.trans rfl
      have HA2 : Hid (rmOut ts = msOf ts) := by show _ = _; unfold rmOut; rw [HA.out]; rfl
      go_wp2_with fail
      go_ret2
      exact ⟨_, ret_vb HA.out.symm, by rw [HA2.out]; exact HO.out.1, HO.out.2.2⟩
/-- What ReadCert answers. -/
noncomputable def rcOK (xs : List Int) : Bool := decide (rdC xs = 0) && (match rdL xs with | [] => false | _ :: ts => allOK ts && cfB (msOf ts))
noncomputable def rcCode (xs : List Int) : Int := if rcOK xs then 0 else if rdC xs = 0 then 3 else rdC xs
noncomputable def rcBd (xs : List Int) : ByteArray := if rcOK xs then (match rdL xs with | [] => ⟨#[]⟩ | t :: _ => t) else ⟨#[]⟩
noncomputable def rcMs (xs : List Int) : List Mg := if rcOK xs then (match rdL xs with | [] => [] | _ :: ts => msOf ts) else []
theorem rc_no {xs : List Int} (h : rcOK xs = false) : rcBd xs = ⟨#[]⟩ ∧ rcMs xs = [] ∧ rcCode xs = (if rdC xs = 0 then 3 else rdC xs) := by unfold rcBd rcMs rcCode; rw [h]; exact ⟨rfl, rfl, rfl⟩
theorem rc_yes {xs : List Int} {t : ByteArray} {ts : List ByteArray} (h0 : rdC xs = 0) (hL : rdL xs = t :: ts) (h1 : allOK ts = true) (h2 : cfB (msOf ts) = true) : rcBd xs = t ∧ rcMs xs = msOf ts ∧ rcCode xs = 0 := by
  have h : rcOK xs = true := by unfold rcOK; rw [hL, h0]; simp only; rw [h1, h2]; rfl
  unfold rcBd rcMs rcCode
  rw [h, hL]
  exact ⟨rfl, rfl, rfl⟩
theorem rdL_size (xs : List Int) (hr : ∀ x ∈ xs, 0 ≤ x ∧ x ≤ 255) : ∀ t ∈ rdL xs, t.size ≤ 65535 := by
  intro t ht
  unfold Rl.rdL Rl.rlO at ht
  split at ht
  · obtain ⟨j, hj, e⟩ := List.mem_iff_getElem.1 ht
    have hj2 : j < Tl.tlN xs := by rw [Tl.lT_length] at hj; exact hj
    have h1 := Rl.lT_at (tkR 1 xs) _ _ hj2
    have h2 := at_some hj
    rw [List.getElem?_eq_getElem hj, e] at h2
    rw [Option.some.inj h2, h1]
    exact Rl.txt_small _ (Tl.lR_range (tkR_range (n := 1) hr) j)
  · cases ht
end Go.Proofs.YtddmdnljfnimbaaGreatDoor.Rc

/- Certificates are read: ReadCert of the program. -/
namespace Go.Proofs.YtddmdnljfnimbaaGreatDoor.Rc
open Go.RowKit Go.Proofs.YtddmdnljfnimbaaGreatDoor.Sl Go.Proofs.YtddmdnljfnimbaaGreatDoor.By Go.Proofs.YtddmdnljfnimbaaGreatDoor.Ap Go.Proofs.YtddmdnljfnimbaaGreatDoor.Rq Go.Proofs.YtddmdnljfnimbaaGreatDoor.Rr Go.Proofs.YtddmdnljfnimbaaGreatDoor.Of Go.Proofs.YtddmdnljfnimbaaGreatDoor.Om Go.Proofs.YtddmdnljfnimbaaGreatDoor.Ms Go.Proofs.YtddmdnljfnimbaaGreatDoor.Gm Go.Proofs.YtddmdnljfnimbaaGreatDoor.Cb
open Go.Proofs.YtddmdnljfnimbaaGreatDoor.Ty (RowT tnth)
open Go.Proofs.YtddmdnljfnimbaaGreatDoor.Tl (OwnS)
open Go.Proofs.YtddmdnljfnimbaaGreatDoor.Rl (rdC rdL implReadList_any)
open Go.Proofs.YtddmdnljfnimbaaGreatDoor.Rg (RowG RowG.slice RowG.at lt_at mem_at bel_new)

theorem ret_cc {a : ByteArray} {b : ByteArray} {v : Value} {c d : Int} (h : a = b ∧ c = d) : Ending.returned (.tuple #[.agg #[.string a, v], .int .i64 c]) = .returned (.tuple #[crtV b v, .int .i64 d]) := by rw [h.1, h.2]; rfl
theorem rdC_cases (xs : List Int) : rdC xs = 0 ∨ rdC xs = 2 ∨ rdC xs = 3 := by
  unfold Rl.rdC Rl.rlC
  split
  · exact .inr (.inl rfl)
  · split
    · exact .inl rfl
    · exact .inr (.inr rfl)
set_option maxRecDepth 100000 in
set_option maxHeartbeats 1600000 in
theorem implReadCert_any (v : Value) (xs : List Int) (w : World) (h : RowB w v xs) (hl : xs.length ≤ 1048576) :
    Calls Tryz.prog 80 #[v] w fun e w' => ∃ vp, e = .returned (.tuple #[crtV (rcBd xs) vp, .int .i64 (rcCode xs)]) ∧ OwnM w' w.heap.size vp (rcMs xs) ∧ Below w.heap.size w w' := by
  have hr : ∀ x ∈ xs, 0 ≤ x ∧ x ≤ 255 := by obtain ⟨_, _, _, _, h⟩ := h; exact h
  have HSM : Hid (∀ t ∈ rdL xs, t.size ≤ 65535) := rdL_size xs hr
  have HLL : Hid ((rdL xs).length ≤ 65535) := Rl.rdL_small xs hr
  have HRL := implReadList_any v xs (w.alloc (.cells #[.string ⟨#[]⟩, .slice none 0 0] 29)) (h.below (bel_new _ _)) hl
  clear hr h
  go_enter Tryz.func80, Tryz.ntmps80
  go_wp2_with fail
  refine HRL.mono ?_
  rintro e w1 ⟨v1, rfl, o1, b1⟩
  have K0 : Hid (w1.heap[w.heap.size]? = some (.cells #[.string ⟨#[]⟩, .slice none 0 0] 29 (0, 0))) := (b1.block w.heap.size (by simp)).trans (heap_alloc_new w _)
  have KB : Hid (Below w.heap.size w w1) := (bel_new w _).trans (b1.mono (by simp))
  have O1 : Hid (OwnS w1 (w.alloc (.cells #[.string ⟨#[]⟩, .slice none 0 0] 29)).heap.size v1 (rdL xs)) := o1
  clear b1 o1 HRL
  by_cases h0 : rdC xs = 0
  · have hRT := Tl.OwnS.row O1.out
    rw [h0]
    obtain ⟨a, cap, rfl, hh⟩ := hRT
    have HHH : Hid (rdL xs = [] ∨ ∃ b off, a = some ⟨b, off, none⟩ ∧ (rdL xs).length ≤ cap ∧ b < w1.heap.size ∧ ∀ i, i < (rdL xs).length → w1.cell? ⟨b, off + i, none⟩ = some (.string (tnth (rdL xs) i))) := hh
    clear hh O1
    cases hL : rdL xs with
    | nil =>
      have HN : Hid (rcBd xs = ⟨#[]⟩ ∧ rcMs xs = [] ∧ rcCode xs = 3) := by
        have h1 := rc_no (xs := xs) (by unfold rcOK; rw [hL]; simp)
        rw [if_pos h0] at h1
        exact h1
      clear hL h0 HHH HSM HLL
      obtain ⟨m0, n0⟩ := blk_cell K0.out 0 (x := .string ⟨#[]⟩) rfl
      obtain ⟨m1, n1⟩ := blk_cell K0.out 1 (x := .slice none 0 0) rfl
      have AF : ((w1.setCell ⟨w.heap.size, 0, none⟩ (.string ⟨#[]⟩)).setCell ⟨w.heap.size, 1, none⟩ (.slice none 0 0)).heap[w.heap.size]? = some (.cells #[.string ⟨#[]⟩, .slice none 0 0] 29 (0, 0)) := (blk_set (blk_set K0.out 0 (.string ⟨#[]⟩)) 1 (.slice none 0 0))
      have GF : Hid (Below w.heap.size w ((w1.setCell ⟨w.heap.size, 0, none⟩ (.string ⟨#[]⟩)).setCell ⟨w.heap.size, 1, none⟩ (.slice none 0 0))) := (Below.setCell (Below.setCell KB.out (p := ⟨w.heap.size, 0, none⟩) (Nat.le_refl _) (.string ⟨#[]⟩)) (p := ⟨w.heap.size, 1, none⟩) (Nat.le_refl _) (.slice none 0 0))
      go_wp2_with fail
      generalize ((w1.setCell ⟨w.heap.size, 0, none⟩ (.string ⟨#[]⟩)).setCell ⟨w.heap.size, 1, none⟩ (.slice none 0 0)) = wf at AF GF ⊢
      have d0 := (blk_cell AF 0 (x := .string ⟨#[]⟩) rfl).1
      have d1 := (blk_cell AF 1 (x := .slice none 0 0) rfl).1
      exact bodyPost_ret (v := .tuple #[.agg #[.string ⟨#[]⟩, .slice none 0 0], .int .i64 3]) (by simp [results, Tryz.results80, go_sem, d0, d1]) rfl ⟨_, ret_cc ⟨HN.out.1.symm, HN.out.2.2.symm⟩, by rw [HN.out.2.1]; exact OwnM.nil _ _, GF.out⟩
    | cons t0 ts =>
      have HL : Hid (rdL xs = t0 :: ts) := hL
      rw [hL] at HHH HSM HLL
      clear hL
      obtain ⟨b, off, rfl, hc, hbl, hcell⟩ := (HHH.out.resolve_left (by simp))
      clear HHH
      have c0 : w1.cell? ⟨b, off, none⟩ = some (.string t0) := hcell 0 (by simp)
      have hc1 : ts.length + 1 ≤ cap := by simpa using hc
      have HR1 : RowT w1 (.slice (some ⟨b, off + 1, none⟩) ts.length (cap - 1)) ts := by
        refine ⟨_, _, rfl, .inr ⟨b, off + 1, rfl, by omega, hbl, fun i hi => ?_⟩⟩
        have := hcell (i + 1) (by simp; omega)
        rw [show off + 1 + i = off + (i + 1) by omega, this]
        rfl
      have hlen : ts.length + 1 ≤ 65535 := by have := HLL.out; simpa using this
      have HRM := readMessages_any _ ts w1 HR1 (by omega) (fun t ht => by have := HSM.out t (List.mem_cons_of_mem _ ht); omega)
      have HRMM : Hid (Calls Tryz.prog 101 #[.slice (some ⟨b, off + 1, none⟩) ts.length (cap - 1)] w1 fun e w' => ∃ v', e = .returned (.tuple #[v', .bool (allOK ts)]) ∧ OwnM w' w1.heap.size v' (rmOut ts) ∧ Below w1.heap.size w1 w') := HRM
      clear hcell hc HR1 HRM HSM HLL
      have HRM0 : Hid (ts.length = 0 → Calls Tryz.prog 101 #[.slice (some ⟨b, off, none⟩) ts.length 0] w1 fun e w' => ∃ v', e = .returned (.tuple #[v', .bool (allOK ts)]) ∧ OwnM w' w1.heap.size v' (rmOut ts) ∧ Below w1.heap.size w1 w') := fun h => readMessages_any _ ts w1 ⟨_, _, rfl, .inl (List.length_eq_zero_iff.1 h)⟩ (by omega) (fun t ht => by rw [List.length_eq_zero_iff.1 h] at ht; cases ht)
      rw [List.length_cons]
      go_wp2_with fail
      all_goals
        first
          | (with_reducible refine HRMM.out.mono ?_)
          | (with_reducible refine (HRM0.out (by omega)).mono ?_)
        rintro e w2 ⟨v2, rfl, o2, b2⟩
        have c2 : w2.cell? ⟨b, off, none⟩ = some (.string t0) := (b2.cell (p := ⟨b, off, none⟩) hbl).trans c0
        have k0l := (Array.getElem?_eq_some_iff.1 K0.out).1
        have K02 : Hid (w2.heap[w.heap.size]? = some (.cells #[.string ⟨#[]⟩, .slice none 0 0] 29 (0, 0))) := (b2.block _ k0l).trans K0.out
        have KB2 : Hid (Below w.heap.size w w2) := KB.out.trans (b2.mono KB.out.size)
        obtain ⟨a2, cap2, rfl⟩ := RowG.slice (OwnM.row o2)
        have O2 : Hid (OwnM w2 w.heap.size (.slice a2 (rmOut ts).length cap2) (rmOut ts)) := o2.mono KB.out.size
        clear o2 b2 c0 k0l K0 KB HRMM HRM0
        obtain ⟨mm, HMM⟩ : ∃ mm, Hid (rmOut ts = mm) := ⟨_, rfl⟩
        rw [HMM.out] at O2 ⊢
        have k2l := (Array.getElem?_eq_some_iff.1 K02.out).1
        have K03 : Hid ((w2.alloc (.cells #[.string t0, .slice a2 mm.length cap2] 29)).heap[w.heap.size]? = some (.cells #[.string ⟨#[]⟩, .slice none 0 0] 29 (0, 0))) := (Below.heap_alloc w2 _ _ k2l).trans K02.out
        have X3 : Hid ((w2.alloc (.cells #[.string t0, .slice a2 mm.length cap2] 29)).heap[w2.heap.size]? = some (.cells #[.string t0, .slice a2 mm.length cap2] 29 (0, 0))) := heap_alloc_new w2 _
        have KB3 : Hid (Below w.heap.size w (w2.alloc (.cells #[.string t0, .slice a2 mm.length cap2] 29))) := KB2.out.alloc KB2.out.size _
        have O3 : Hid (OwnM (w2.alloc (.cells #[.string t0, .slice a2 mm.length cap2] 29)) w.heap.size (.slice a2 mm.length cap2) mm) := O2.out.alloc _
        have hml : Hid (mm.length ≤ 1048576) := by show _ ≤ _; rw [← HMM.out]; unfold rmOut msOf; split <;> simp; omega
        clear K02 KB2 O2 k2l
        cases ha : allOK ts with
        | false =>
          have HN : Hid (rcBd xs = ⟨#[]⟩ ∧ rcMs xs = [] ∧ rcCode xs = 3) := by
            have h1 := rc_no (xs := xs) (by unfold rcOK; rw [HL.out]; simp [ha])
            rw [if_pos h0] at h1
            exact h1
          clear h0 HL X3 O3
          go_upto_region 8 with fail
          generalize w2.alloc (.cells #[.string t0, .slice a2 mm.length cap2] 29) = w3 at K03 KB3 ⊢
          clear c2
          obtain ⟨m0, n0⟩ := blk_cell K03.out 0 (x := .string ⟨#[]⟩) rfl
          obtain ⟨m1, n1⟩ := blk_cell K03.out 1 (x := .slice none 0 0) rfl
          have AF : ((w3.setCell ⟨w.heap.size, 0, none⟩ (.string ⟨#[]⟩)).setCell ⟨w.heap.size, 1, none⟩ (.slice none 0 0)).heap[w.heap.size]? = some (.cells #[.string ⟨#[]⟩, .slice none 0 0] 29 (0, 0)) := (blk_set (blk_set K03.out 0 (.string ⟨#[]⟩)) 1 (.slice none 0 0))
          have GF : Hid (Below w.heap.size w ((w3.setCell ⟨w.heap.size, 0, none⟩ (.string ⟨#[]⟩)).setCell ⟨w.heap.size, 1, none⟩ (.slice none 0 0))) := (Below.setCell (Below.setCell KB3.out (p := ⟨w.heap.size, 0, none⟩) (Nat.le_refl _) (.string ⟨#[]⟩)) (p := ⟨w.heap.size, 1, none⟩) (Nat.le_refl _) (.slice none 0 0))
          go_wp2_with fail
          generalize ((w3.setCell ⟨w.heap.size, 0, none⟩ (.string ⟨#[]⟩)).setCell ⟨w.heap.size, 1, none⟩ (.slice none 0 0)) = wf at AF GF ⊢
          have d0 := (blk_cell AF 0 (x := .string ⟨#[]⟩) rfl).1
          have d1 := (blk_cell AF 1 (x := .slice none 0 0) rfl).1
          exact bodyPost_ret (v := .tuple #[.agg #[.string ⟨#[]⟩, .slice none 0 0], .int .i64 3]) (by simp [results, Tryz.results80, go_sem, d0, d1]) rfl ⟨_, ret_cc ⟨HN.out.1.symm, HN.out.2.2.symm⟩, by rw [HN.out.2.1]; exact OwnM.nil _ _, GF.out⟩
        | true =>
          have HMT : Hid (mm = msOf ts) := by show _ = _; rw [← HMM.out]; unfold rmOut; rw [ha]; rfl
          go_upto_region 8 with fail
          obtain ⟨x3, HX3⟩ : ∃ x3, Hid (w2.heap.size = x3) := ⟨_, rfl⟩
          rw [HX3.out] at X3 ⊢
          generalize w2.alloc (.cells #[.string t0, .slice a2 mm.length cap2] 29) = w3 at K03 KB3 X3 O3 ⊢
          have HCF := certFormed_any t0 (.slice a2 mm.length cap2) mm w3 (OwnM.row O3.out) hml.out
          unfold crtV at HCF
          have x0 := (blk_cell X3.out 0 (x := .string t0) rfl).1
          have x1 := (blk_cell X3.out 1 (x := .slice a2 mm.length cap2) rfl).1
          clear c2
          go_wp2_with fail
          refine HCF.mono ?_
          rintro e w4 ⟨rfl, b4⟩
          have k3l := (Array.getElem?_eq_some_iff.1 K03.out).1
          have x3l := (Array.getElem?_eq_some_iff.1 X3.out).1
          have K04 : Hid (w4.heap[w.heap.size]? = some (.cells #[.string ⟨#[]⟩, .slice none 0 0] 29 (0, 0))) := (b4.block _ k3l).trans K03.out
          have X4 : Hid (w4.heap[x3]? = some (.cells #[.string t0, .slice a2 mm.length cap2] 29 (0, 0))) := (b4.block _ x3l).trans X3.out
          have KB4 : Hid (Below w.heap.size w w4) := KB3.out.trans (b4.mono KB3.out.size)
          have O4 : Hid (OwnM w4 w.heap.size (.slice a2 mm.length cap2) mm) := O3.out.below b4
          clear b4 K03 X3 KB3 O3 HCF k3l x3l x0 x1
          cases hf : cfB mm with
          | false =>
            have HN : Hid (rcBd xs = ⟨#[]⟩ ∧ rcMs xs = [] ∧ rcCode xs = 3) := by
              have h1 := rc_no (xs := xs) (by unfold rcOK; rw [HL.out]; simp [ha, ← HMT.out, hf])
              rw [if_pos h0] at h1
              exact h1
            clear h0 HL X4 O4
            obtain ⟨m0, n0⟩ := blk_cell K04.out 0 (x := .string ⟨#[]⟩) rfl
            obtain ⟨m1, n1⟩ := blk_cell K04.out 1 (x := .slice none 0 0) rfl
            have AF : ((w4.setCell ⟨w.heap.size, 0, none⟩ (.string ⟨#[]⟩)).setCell ⟨w.heap.size, 1, none⟩ (.slice none 0 0)).heap[w.heap.size]? = some (.cells #[.string ⟨#[]⟩, .slice none 0 0] 29 (0, 0)) := (blk_set (blk_set K04.out 0 (.string ⟨#[]⟩)) 1 (.slice none 0 0))
            have GF : Hid (Below w.heap.size w ((w4.setCell ⟨w.heap.size, 0, none⟩ (.string ⟨#[]⟩)).setCell ⟨w.heap.size, 1, none⟩ (.slice none 0 0))) := (Below.setCell (Below.setCell KB4.out (p := ⟨w.heap.size, 0, none⟩) (Nat.le_refl _) (.string ⟨#[]⟩)) (p := ⟨w.heap.size, 1, none⟩) (Nat.le_refl _) (.slice none 0 0))
            go_wp2_with fail
            generalize ((w4.setCell ⟨w.heap.size, 0, none⟩ (.string ⟨#[]⟩)).setCell ⟨w.heap.size, 1, none⟩ (.slice none 0 0)) = wf at AF GF ⊢
            have d0 := (blk_cell AF 0 (x := .string ⟨#[]⟩) rfl).1
            have d1 := (blk_cell AF 1 (x := .slice none 0 0) rfl).1
            exact bodyPost_ret (v := .tuple #[.agg #[.string ⟨#[]⟩, .slice none 0 0], .int .i64 3]) (by simp [results, Tryz.results80, go_sem, d0, d1]) rfl ⟨_, ret_cc ⟨HN.out.1.symm, HN.out.2.2.symm⟩, by rw [HN.out.2.1]; exact OwnM.nil _ _, GF.out⟩
          | true =>
            have HN : Hid (rcBd xs = t0 ∧ rcMs xs = mm ∧ rcCode xs = 0) := by
              have h1 := rc_yes h0 HL.out ha (by rw [← HMT.out]; exact hf)
              rw [← HMT.out] at h1
              exact h1
            have HAW : Hid (∀ g, (Value.slice a2 mm.length cap2).ownBlock = some g → g ≠ w.heap.size) := fun g hg e => by
              subst e
              obtain ⟨_, h | ⟨g', cap', cur, he, _, hgg, _⟩⟩ := O4.out
              · rw [h.1] at hg; simp [Value.ownBlock] at hg
              · rw [he] at hg
                simp [Value.ownBlock] at hg
                subst hg
                rw [K04.out] at hgg
                simp at hgg
            clear h0 HL
            have p0 := (blk_cell X4.out 0 (x := .string t0) rfl).1
            have p1 := (blk_cell X4.out 1 (x := .slice a2 mm.length cap2) rfl).1
            obtain ⟨m0, n0⟩ := blk_cell K04.out 0 (x := .string ⟨#[]⟩) rfl
            obtain ⟨m1, n1⟩ := blk_cell K04.out 1 (x := .slice none 0 0) rfl
            have AF : ((w4.setCell ⟨w.heap.size, 0, none⟩ (.string t0)).setCell ⟨w.heap.size, 1, none⟩ (.slice a2 mm.length cap2)).heap[w.heap.size]? = some (.cells #[.string t0, .slice a2 mm.length cap2] 29 (0, 0)) := (blk_set (blk_set K04.out 0 (.string t0)) 1 (.slice a2 mm.length cap2))
            have GF : Hid (Below w.heap.size w ((w4.setCell ⟨w.heap.size, 0, none⟩ (.string t0)).setCell ⟨w.heap.size, 1, none⟩ (.slice a2 mm.length cap2))) := (Below.setCell (Below.setCell KB4.out (p := ⟨w.heap.size, 0, none⟩) (Nat.le_refl _) (.string t0)) (p := ⟨w.heap.size, 1, none⟩) (Nat.le_refl _) (.slice a2 mm.length cap2))
            have OF : Hid (OwnM ((w4.setCell ⟨w.heap.size, 0, none⟩ (.string t0)).setCell ⟨w.heap.size, 1, none⟩ (.slice a2 mm.length cap2)) w.heap.size (.slice a2 mm.length cap2) mm) := O4.out.kept fun g hg => (blk_far (HAW.out g hg) 1 _).trans (blk_far (HAW.out g hg) 0 _)
            go_wp2_with fail
            generalize ((w4.setCell ⟨w.heap.size, 0, none⟩ (.string t0)).setCell ⟨w.heap.size, 1, none⟩ (.slice a2 mm.length cap2)) = wf at AF GF OF ⊢
            have d0 := (blk_cell AF 0 (x := .string t0) rfl).1
            have d1 := (blk_cell AF 1 (x := .slice a2 mm.length cap2) rfl).1
            exact bodyPost_ret (v := .tuple #[.agg #[.string t0, .slice a2 mm.length cap2], .int .i64 0]) (by simp [results, Tryz.results80, go_sem, d0, d1]) rfl ⟨_, ret_cc ⟨HN.out.1.symm, HN.out.2.2.symm⟩, by rw [HN.out.2.1]; exact OF.out, GF.out⟩
  · have hne : (rdC xs != 0) = true := by simp [h0]
    have HN : Hid (rcBd xs = ⟨#[]⟩ ∧ rcMs xs = [] ∧ rcCode xs = rdC xs) := by
      have h1 := rc_no (xs := xs) (by unfold rcOK; simp [h0])
      rw [if_neg h0] at h1
      exact h1
    clear O1 h0 HSM HLL
    generalize rdC xs = cd at HN hne
    obtain ⟨m0, n0⟩ := blk_cell K0.out 0 (x := .string ⟨#[]⟩) rfl
    obtain ⟨m1, n1⟩ := blk_cell K0.out 1 (x := .slice none 0 0) rfl
    have AF : ((w1.setCell ⟨w.heap.size, 0, none⟩ (.string ⟨#[]⟩)).setCell ⟨w.heap.size, 1, none⟩ (.slice none 0 0)).heap[w.heap.size]? = some (.cells #[.string ⟨#[]⟩, .slice none 0 0] 29 (0, 0)) := (blk_set (blk_set K0.out 0 (.string ⟨#[]⟩)) 1 (.slice none 0 0))
    have GF : Hid (Below w.heap.size w ((w1.setCell ⟨w.heap.size, 0, none⟩ (.string ⟨#[]⟩)).setCell ⟨w.heap.size, 1, none⟩ (.slice none 0 0))) := (Below.setCell (Below.setCell KB.out (p := ⟨w.heap.size, 0, none⟩) (Nat.le_refl _) (.string ⟨#[]⟩)) (p := ⟨w.heap.size, 1, none⟩) (Nat.le_refl _) (.slice none 0 0))
    go_wp2_with fail
    generalize ((w1.setCell ⟨w.heap.size, 0, none⟩ (.string ⟨#[]⟩)).setCell ⟨w.heap.size, 1, none⟩ (.slice none 0 0)) = wf at AF GF ⊢
    have d0 := (blk_cell AF 0 (x := .string ⟨#[]⟩) rfl).1
    have d1 := (blk_cell AF 1 (x := .slice none 0 0) rfl).1
    exact bodyPost_ret (v := .tuple #[.agg #[.string ⟨#[]⟩, .slice none 0 0], .int .i64 cd]) (by simp [results, Tryz.results80, go_sem, d0, d1]) rfl ⟨_, ret_cc ⟨HN.out.1.symm, HN.out.2.2.symm⟩, by rw [HN.out.2.1]; exact OwnM.nil _ _, GF.out⟩
end Go.Proofs.YtddmdnljfnimbaaGreatDoor.Rc
