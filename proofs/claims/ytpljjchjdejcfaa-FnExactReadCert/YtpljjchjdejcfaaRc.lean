/- Messages in a row of one's own; one message read off a text, by the program and by the specification. -/
import Derived.Test.YtpljjchjdejcfaaCb2
import Derived.Test.YtpljjchjdejcfaaEqMsg
import Derived.Test.YtpljjchjdejcfaaEqReq
import Derived.Test.YtpljjchjdejcfaaRl2
namespace Go.Proofs.Ytpljjchjdejcfaa.Rc
open Go.RowKit Go.Proofs.Ytpljjchjdejcfaa.Sl Go.Proofs.Ytpljjchjdejcfaa.By Go.Proofs.Ytpljjchjdejcfaa.Ap Go.Proofs.Ytpljjchjdejcfaa.Rq Go.Proofs.Ytpljjchjdejcfaa.Rr Go.Proofs.Ytpljjchjdejcfaa.Of Go.Proofs.Ytpljjchjdejcfaa.Om Go.Proofs.Ytpljjchjdejcfaa.Ms Go.Proofs.Ytpljjchjdejcfaa.Gm Go.Proofs.Ytpljjchjdejcfaa.Cb
open Go.Proofs.Ytpljjchjdejcfaa.Tx (RowT tnth)
open Go.Proofs.Ytpljjchjdejcfaa.Tl (OwnS)
open Go.Proofs.Ytpljjchjdejcfaa.Rg (RowG RowG.slice RowG.at lt_at mem_at bel_new)

def cl (x : Mg) : List Value := [.int .i64 x.kd, .int .i64 x.vw, .int .i64 x.sq, .int .i64 x.fr, .string x.dg, .string x.bd, .string x.mc]
theorem cl_len (x : Mg) : (cl x).length = 7 := rfl
theorem cl_one (x : Mg) : ∀ u ∈ cl x, u.oneCell' = true := by
  intro u hu
  unfold cl at hu
  simp only [List.mem_cons, List.not_mem_nil, or_false] at hu
  rcases hu with h | h | h | h | h | h | h <;> (rw [h]; rfl)
theorem fm_len : ∀ (ms : List Mg), (ms.flatMap cl).length = ms.length * 7
  | [] => rfl
  | x :: xs => by rw [List.flatMap_cons, List.length_append, fm_len xs, cl_len, List.length_cons]; omega
theorem fm_at : ∀ (ms : List Mg) (i : Nat) (x : Mg) (j : Nat), ms[i]? = some x → j < 7 → (ms.flatMap cl)[i * 7 + j]? = (cl x)[j]?
  | [], i, x, j, h, _ => by simp at h
  | y :: ys, 0, x, j, h, hj => by
    simp at h
    subst h
    rw [List.flatMap_cons, Nat.zero_mul, Nat.zero_add, List.getElem?_append_left (by rw [cl_len]; exact hj)]
  | y :: ys, i + 1, x, j, h, hj => by
    have h' : ys[i]? = some x := by simpa using h
    rw [List.flatMap_cons, List.getElem?_append_right (by rw [cl_len]; omega), cl_len, show (i + 1) * 7 + j - 7 = i * 7 + j by omega]
    exact fm_at ys i x j h' hj
/-- Messages in a slice of the call's own. -/
def OwnM (w : World) (B : Nat) (v : Value) (ms : List Mg) : Prop := w.ownsRow B 68 7 v ms.length (ms.flatMap cl)
theorem OwnM.row {w : World} {B : Nat} {v : Value} {ms : List Mg} (h : OwnM w B v ms) : Row w v ms := by
  obtain ⟨hl, h⟩ := h
  rcases h with ⟨rfl, h0⟩ | ⟨g, cap, cur, rfl, hB, hg, hc, _, hs, htk⟩
  · exact ⟨none, 0, by rw [h0], .inl (List.length_eq_zero_iff.1 h0)⟩
  · refine ⟨_, cap, rfl, .inr ⟨g, 0, rfl, hc, (Array.getElem?_eq_some_iff.1 hg).1, fun i x hi => ?_⟩⟩
    have hil := lt_at hi
    have key : ∀ j u, j < 7 → (cl x)[j]? = some u → w.cell? ⟨g, 0 + i * 7 + j, none⟩ = some u := fun j u hj hu => by
      rw [Nat.zero_add, Joins.cell_of_block hg, ← Array.getElem?_toList]
      have h1 := fm_at ms i x j hi hj
      rw [← htk, List.getElem?_take, if_pos (by omega)] at h1
      rw [h1, hu]
    exact ⟨key 0 _ (by decide) rfl, key 1 _ (by decide) rfl, key 2 _ (by decide) rfl, key 3 _ (by decide) rfl, key 4 _ (by decide) rfl, key 5 _ (by decide) rfl, key 6 _ (by decide) rfl⟩
theorem OwnM.kept {w w' : World} {B : Nat} {v : Value} {ms : List Mg} (h : OwnM w B v ms) (hk : ∀ g, v.ownBlock = some g → w'.heap[g]? = w.heap[g]?) : OwnM w' B v ms := by
  obtain ⟨hl, h⟩ := h
  refine ⟨hl, ?_⟩
  rcases h with h | ⟨g, cap, cur, rfl, h1, hg, h2⟩
  · exact .inl h
  · exact .inr ⟨g, cap, cur, rfl, h1, (hk g rfl).trans hg, h2⟩
theorem OwnM.lt {w : World} {B : Nat} {v : Value} {ms : List Mg} (h : OwnM w B v ms) : ∀ g, v.ownBlock = some g → B ≤ g ∧ g < w.heap.size := World.ownsRow.lt h
theorem OwnM.below {w w' : World} {B : Nat} {v : Value} {ms : List Mg} (h : OwnM w B v ms) (hb : Below w.heap.size w w') : OwnM w' B v ms := h.kept fun g hg => hb.block g (h.lt g hg).2
theorem OwnM.mono {w : World} {B B' : Nat} {v : Value} {ms : List Mg} (h : OwnM w B v ms) (hb : B' ≤ B) : OwnM w B' v ms := by
  obtain ⟨hl, h⟩ := h
  refine ⟨hl, ?_⟩
  rcases h with h | ⟨g, cap, cur, rfl, h1, hg, h2⟩
  · exact .inl h
  · exact .inr ⟨g, cap, cur, rfl, Nat.le_trans hb h1, hg, h2⟩
theorem OwnM.nil (w : World) (B : Nat) : OwnM w B (.slice none 0 0) [] := World.ownsRow_nil _ _ _ _
theorem OwnM.made (w : World) (B : Nat) (hB : B ≤ w.heap.size) : OwnM (w.alloc (.cells #[] 68)) B (.slice (some ⟨w.heap.size, 0, none⟩) 0 0) [] := World.ownsRow_made w #[] 0 hB (by decide) rfl
theorem OwnM.alloc {w : World} {B : Nat} {v : Value} {ms : List Mg} (h : OwnM w B v ms) (o : Obj) : OwnM (w.alloc o) B v ms := h.below (bel_new _ _)
theorem info_m : (Try.prog.info? 68).map (fun i => (i.zero, i.size, i.bytes)) = some (some (.agg #[.int .i64 0, .int .i64 0, .int .i64 0, .int .i64 0, .string ⟨#[]⟩, .string ⟨#[]⟩, .string ⟨#[]⟩]), 7, 80) := by kernel_rfl
/-- Nothing was written but v's own row, and new blocks. -/
def Kq (W w' : World) (v v' : Value) : Prop := ∀ k, k < W.heap.size → some k ≠ v.ownBlock → w'.heap[k]? = W.heap[k]? ∧ some k ≠ v'.ownBlock
/-- One message more. -/
theorem list_msg {P : Program} {ops : Array Oper} {rest : List Oper} {o : Oper} {a : Act} {Q : Exit → Act → World → Prop} (hgd : o.guard = none) (s x : Operand) (t : TypeId)
    (ho : o.op = .call { callee := .builtin .append, args := #[s, x], argTypes := #[t, t] }) (i : TypeInfo) (ht : P.underlying t = some (.slice 68)) (hi : P.info? 68 = some i) (hz : i.zero = some (.agg #[.int .i64 0, .int .i64 0, .int .i64 0, .int .i64 0, .string ⟨#[]⟩, .string ⟨#[]⟩, .string ⟨#[]⟩]))
    (hsize : i.size = 7) (hby : i.bytes = 80) (B : Nat) (w0 W : World) (v : Value) (ms : List Mg) (m : Mg) (hs : a.eval s = v) (hown : OwnM W B v ms) (hg0 : Below B w0 W) (hB : B ≤ W.heap.size)
    (gx : Nat) (hx : a.eval x = .slice (some ⟨gx, 0, none⟩) 1 1) (hgx : W.heap.size = gx) (hlen : ms.length ≤ 1000000)
    (h : ∀ v' w', OwnM w' B v' (ms ++ [m]) → Below B w0 w' → Kq W w' v v' → wpList P ops Q rest (a.put o.dst v') w') : wpList P ops Q (o :: rest) a (W.alloc (.cells #[.int .i64 m.kd, .int .i64 m.vw, .int .i64 m.sq, .int .i64 m.fr, .string m.dg, .string m.bd, .string m.mc] 68)) := by
  subst hgx
  have hown' := hown.alloc (.cells #[.int .i64 m.kd, .int .i64 m.vw, .int .i64 m.sq, .int .i64 m.fr, .string m.dg, .string m.bd, .string m.mc] 68)
  refine wpList_append_own_at (P := P) _ hgd s x t ho B 68 i _ 7 80 ht hi hz hsize hby rfl (by decide) v ms.length _ hs hown' ⟨W.heap.size, 0, none⟩ 1 1 (cl m) hx rfl ?_ (cl_one m) (by unfold maxLen; omega) (by omega) (by simp; omega) ?_
  · intro j u hj
    have h2 : (⟨W.heap.size, 0, none⟩ : Addr).add j = ⟨W.heap.size, j, none⟩ := by unfold Addr.add; split <;> simp_all
    rw [h2, Joins.cell_of_block (heap_alloc_new W _), ← hj]
    simp [cl]
  · intro v' w' h1 h2 h3 h4
    refine h v' w' (by unfold OwnM; rw [List.flatMap_append, List.length_append]; simpa using h1) ((hg0.alloc hB _).grown h2 (by simp; omega) (fun k hk => (hown'.lt k hk).1)) (fun k hk hn => ⟨(h2.block k (by simp; omega) hn).trans (Below.heap_alloc W _ k hk), fun e => ?_⟩)
    rcases h4 with h4 | h4
    · exact hn (e.trans h4)
    · rw [h4] at e
      simp at e
      omega
/-- What one text reads as: the message, and the code. -/
theorem rd_ex (t : ByteArray) : ∃ (m : Mg) (c : Int), readMsg (bys t) = .tuple #[oneV m, .int .i64 c] := by
  obtain ⟨kd, vw, sq, fr, dg, bd, mc, code, h⟩ := readMsg_form (bys t)
  exact ⟨⟨kd, vw, sq, fr, dg, bd, mc⟩, code, h⟩
noncomputable def mOf (t : ByteArray) : Mg := (rd_ex t).choose
noncomputable def cOf (t : ByteArray) : Int := (rd_ex t).choose_spec.choose
theorem rd_eq (t : ByteArray) : readMsg (bys t) = .tuple #[oneV (mOf t), .int .i64 (cOf t)] := (rd_ex t).choose_spec.choose_spec
theorem tup_inj {a b : Value} {c d : Int} (h : Value.tuple #[a, .int .i64 c] = .tuple #[b, .int .i64 d]) : a = b ∧ c = d := by
  injection h with h
  have h2 := congrArg Array.toList h
  simp at h2
  exact h2
theorem one_inj {x y : Mg} (h : oneV x = oneV y) : x = y := by
  unfold oneV at h
  injection h with h
  have h2 := congrArg Array.toList h
  cases x
  cases y
  simp at h2
  simp [h2]
theorem ok_right (t : ByteArray) (h : cOf t = 0) : mB (mOf t) = true := by
  have e := rd_eq t
  rw [h] at e
  unfold readMsg rjV at e
  split at e
  · obtain ⟨_, h2⟩ := tup_inj e
    cases h2
  · split at e
    · rename_i h3
      obtain ⟨h1, _⟩ := tup_inj e
      rw [Bool.and_eq_true, Bool.and_eq_true] at h3
      have h4 := h3.2.2
      have h5 := one_inj (x := ⟨_, _, _, _, _, _, _⟩) h1
      rw [← h5]
      exact h4
    · obtain ⟨_, h2⟩ := tup_inj e
      cases h2
/-- The specification reads it alike. -/
theorem l02ReadMessage_any (s : ByteArray) (w : World) (hs : s.size ≤ 65536) :
    Calls Try.prog 94 #[.string s] w fun e w' => (∃ m : Mg, e = .returned (.tuple #[oneV m, .bool (decide (cOf s = 0))]) ∧ (cOf s = 0 → m = mOf s)) ∧ Below w.heap.size w w' := by
  have hr := bys_range s
  have e0 := str_bys s
  have hsz : (bys s).length = s.size := bys_length s
  have hD := mD_lt (bys s) hr
  have hNe := mN_eq (bys s) hr
  have hRE := rd_eq s
  have h4e : ∀ h : 4 < (strOfNums (bys s)).size, ((strOfNums (bys s))[4]'h).toNat = mD (bys s) := by
    intro h
    have := str_at (bys s) hr 4 h
    unfold mD
    omega
  have hz := strOfNums_size (bys s)
  by_cases hyes : (bys s).length = 15 + mD (bys s) + mN (bys s)
  · obtain ⟨e1, e2, e3, e4, e5, e6, e7, e8, e9⟩ := eq_msg_yes (bys s) hr hyes
    have HY := l02ReadMessage_yes (strOfNums (bys s)) w (mD (bys s)) (mN (bys s)) (by omega) (by omega) (h4e (by omega)) hNe (by omega)
    have HE : readMsg (bys s) = if msgB (nth (bys (strOfNums (bys s))) 0) (nth (bys (strOfNums (bys s))) 1) (nth (bys (strOfNums (bys s))) 2) (nth (bys (strOfNums (bys s))) 3) ((strOfNums (bys s)).extract 5 (5 + mD (bys s))) ((strOfNums (bys s)).extract (5 + mD (bys s) + 2) (5 + mD (bys s) + 2 + mN (bys s))) ((strOfNums (bys s)).extract (5 + mD (bys s) + 2 + mN (bys s)) (strOfNums (bys s)).size) then .tuple #[.agg #[.int .i64 (nth (bys (strOfNums (bys s))) 0), .int .i64 (nth (bys (strOfNums (bys s))) 1), .int .i64 (nth (bys (strOfNums (bys s))) 2), .int .i64 (nth (bys (strOfNums (bys s))) 3), .string ((strOfNums (bys s)).extract 5 (5 + mD (bys s))), .string ((strOfNums (bys s)).extract (5 + mD (bys s) + 2) (5 + mD (bys s) + 2 + mN (bys s))), .string ((strOfNums (bys s)).extract (5 + mD (bys s) + 2 + mN (bys s)) (strOfNums (bys s)).size)], .int .i64 0] else .tuple #[.agg zmsg, .int .i64 3] := by
      unfold readMsg; rw [e1, e2, e3, e4, e5, e6, e7, e8, e9, decide_eq_false (by omega)]; rfl
    rw [hRE] at HE
    clear e1 e2 e3 e4 e5 e6 e7 e8 e9 hyes h4e hNe hD
    generalize (strOfNums (bys s)).extract 5 (5 + mD (bys s)) = dg at HE HY
    generalize (strOfNums (bys s)).extract (5 + mD (bys s) + 2 + mN (bys s)) (strOfNums (bys s)).size = mc at HE HY
    generalize (strOfNums (bys s)).extract (5 + mD (bys s) + 2) (5 + mD (bys s) + 2 + mN (bys s)) = bd at HE HY
    generalize nth (bys (strOfNums (bys s))) 0 = kd at HE HY
    generalize nth (bys (strOfNums (bys s))) 1 = vw at HE HY
    generalize nth (bys (strOfNums (bys s))) 2 = sq at HE HY
    generalize nth (bys (strOfNums (bys s))) 3 = fr at HE HY
    rw [e0] at HY
    refine HY.mono ?_
    rintro e w' ⟨rfl, b⟩
    refine ⟨⟨⟨kd, vw, sq, fr, dg, bd, mc⟩, ?_, fun hc => ?_⟩, b⟩
    · cases hq : msgB kd vw sq fr dg bd mc with
      | true =>
        rw [hq] at HE
        obtain ⟨_, h2⟩ := tup_inj HE
        rw [decide_eq_true h2]
        rfl
      | false =>
        rw [hq] at HE
        obtain ⟨_, h2⟩ := tup_inj HE
        rw [decide_eq_false (by omega)]
        rfl
    · cases hq : msgB kd vw sq fr dg bd mc with
      | true =>
        rw [hq] at HE
        obtain ⟨h1, _⟩ := tup_inj HE
        exact (one_inj (x := mOf s) (y := ⟨kd, vw, sq, fr, dg, bd, mc⟩) h1).symm
      | false =>
        rw [hq] at HE
        obtain ⟨_, h2⟩ := tup_inj HE
        omega
  · have hno : ∀ h : 4 < (strOfNums (bys s)).size, (strOfNums (bys s)).size < 7 ∨ (strOfNums (bys s)).size < 7 + ((strOfNums (bys s))[4]'h).toNat ∨ (7 + ((strOfNums (bys s))[4]'h).toNat ≤ (strOfNums (bys s)).size ∧ ((strOfNums (bys s)).size : Int) ≠ 5 + (((strOfNums (bys s))[4]'h).toNat : Int) + 2 + beN (bys ((strOfNums (bys s)).extract (5 + ((strOfNums (bys s))[4]'h).toNat) (5 + ((strOfNums (bys s))[4]'h).toNat + 2))) + 8) := by
      intro h
      rw [h4e h, hNe]
      omega
    have HN : readMsg (bys s) = .tuple #[.agg zmsg, .int .i64 3] := by unfold readMsg; rw [eq_msg_no (bys s) hyes, decide_eq_false (by omega)]; rfl
    have HY := l02ReadMessage_no (strOfNums (bys s)) w (by omega) hno
    rw [hRE] at HN
    obtain ⟨_, h2⟩ := tup_inj HN
    rw [e0] at HY
    refine HY.mono ?_
    rintro e w' ⟨rfl, b⟩
    refine ⟨⟨⟨0, 0, 0, 0, ⟨#[]⟩, ⟨#[]⟩, ⟨#[]⟩⟩, ?_, fun hc => by omega⟩, b⟩
    rw [decide_eq_false (by omega)]
    rfl
end Go.Proofs.Ytpljjchjdejcfaa.Rc
