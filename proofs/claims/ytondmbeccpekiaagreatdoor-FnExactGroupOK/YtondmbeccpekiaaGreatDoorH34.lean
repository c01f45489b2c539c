/- Texts put together: Rl2, Rc, Rc2. -/
import Derived.Test.YtondmbeccpekiaaGreatDoorH33
import Derived.Deep.RegionWith
import Derived.Test.YtondmbeccpekiaaGreatDoorH32
import Derived.Test.YtondmbeccpekiaaGreatDoorH28
import Derived.Test.YtondmbeccpekiaaGreatDoorH25
import Derived.Lib.ConvBytes
/- Both ReadList functions; the laws' marks on a list that was handed out. -/
namespace Go.Proofs.YtondmbeccpekiaaGreatDoor.Rl
open Go.RowKit Go.Proofs.YtondmbeccpekiaaGreatDoor.Sl Go.Proofs.YtondmbeccpekiaaGreatDoor.By Go.Proofs.YtondmbeccpekiaaGreatDoor.Ap Go.Proofs.YtondmbeccpekiaaGreatDoor.Rq Go.Proofs.YtondmbeccpekiaaGreatDoor.Rr Go.Proofs.YtondmbeccpekiaaGreatDoor.Ty Go.Proofs.YtondmbeccpekiaaGreatDoor.Tl Go.Proofs.YtondmbeccpekiaaGreatDoor.Of Go.Proofs.YtondmbeccpekiaaGreatDoor.Mk

def rdC (xs : List Int) : Int := rlC (decide (65536 < xs.length)) (rdOk xs)
def rdL (xs : List Int) : List ByteArray := rlO (decide (65536 < xs.length)) (rdOk xs) (lT (tkR 1 xs) (tlN xs))
theorem txt_small (xs : List Int) (hr : ∀ x ∈ xs, 0 ≤ x ∧ x ≤ 255) : (txtB 2 xs).size ≤ 65535 := by
  unfold txtB
  rw [strOfNums_size]
  exact Nat.le_trans (tkB_len _ _) (txtN_le 2 xs (by decide) hr).1
theorem rdL_small (xs : List Int) (hr : ∀ x ∈ xs, 0 ≤ x ∧ x ≤ 255) : (rdL xs).length ≤ 65535 := by
  unfold rdL rlO
  split
  · rw [lT_length]; exact (tlN_le xs hr).1
  · simp

set_option maxHeartbeats 400000 in
theorem implReadList_any (v : Value) (xs : List Int) (w : World) (h : RowB w v xs) (hl : xs.length ≤ 1048576) :
    Calls Tryz.prog 167 #[v] w fun e w' => ∃ v', e = .returned (.tuple #[v', .int .i64 (rdC xs)]) ∧ OwnS w' w.heap.size v' (rdL xs) ∧ Below w.heap.size w w' := by
  have hr : ∀ x ∈ xs, 0 ≤ x ∧ x ≤ 255 := by obtain ⟨_, _, _, _, h⟩ := h; exact h
  have HR : Hid (RowB w v xs) := h
  have H1 : Hid ((lT (tkR 1 xs) (tlN xs)).length ≤ 1048576) := by show _ ≤ _; rw [lT_length]; have := (tlN_le xs hr).1; omega
  have H2 : Hid (∀ i, i < (lT (tkR 1 xs) (tlN xs)).length → (tnth (lT (tkR 1 xs) (tlN xs)) i).size ≤ 1048576) := fun i hi => by
    rw [lT_length] at hi
    rw [lT_at _ _ _ hi]
    have := txt_small _ (lR_range (tkR_range (n := 1) hr) i)
    omega
  clear h hr
  go_enter Tryz.func167, Tryz.ntmps167
  go_wp2_with fail
  refine (readJustList_gen _ xs _ HR.out hl (lT (tkR 1 xs) (tlN xs)) (lR (tkR 1 xs) (tlN xs)) (lS (tkR 1 xs) (tkS 1 xs false) (tlN xs)) H1.out H2.out (fun W p B h1 h2 h3 h4 => takeList_any p B xs false W h1 h2 h3 h4)).mono ?_
  rintro e w1 ⟨v1, rfl, o1, b1⟩
  have O1 : Hid (OwnS w1 w.heap.size v1 (rdL xs)) := o1
  have EC : Hid (rlC (decide (65536 < xs.length)) (!lS (tkR 1 xs) (tkS 1 xs false) (tlN xs) && ((lR (tkR 1 xs) (tlN xs)).isEmpty && okT (lT (tkR 1 xs) (tlN xs)))) = rdC xs) := rfl
  rw [EC.out]
  clear o1 EC
  go_wp2_with fail
  go_ret2
  exact ⟨_, rfl, O1.out, b1⟩

end Go.Proofs.YtondmbeccpekiaaGreatDoor.Rl

/- Messages in a row of one's own; one message read off a text, by the program and by the specification. -/
namespace Go.Proofs.YtondmbeccpekiaaGreatDoor.Rc
open Go.RowKit Go.Proofs.YtondmbeccpekiaaGreatDoor.Sl Go.Proofs.YtondmbeccpekiaaGreatDoor.By Go.Proofs.YtondmbeccpekiaaGreatDoor.Ap Go.Proofs.YtondmbeccpekiaaGreatDoor.Rq Go.Proofs.YtondmbeccpekiaaGreatDoor.Rr Go.Proofs.YtondmbeccpekiaaGreatDoor.Of Go.Proofs.YtondmbeccpekiaaGreatDoor.Om Go.Proofs.YtondmbeccpekiaaGreatDoor.Ms Go.Proofs.YtondmbeccpekiaaGreatDoor.Gm Go.Proofs.YtondmbeccpekiaaGreatDoor.Cb
open Go.Proofs.YtondmbeccpekiaaGreatDoor.Ty (RowT tnth)
open Go.Proofs.YtondmbeccpekiaaGreatDoor.Tl (OwnS)
open Go.Proofs.YtondmbeccpekiaaGreatDoor.Rg (RowG RowG.slice RowG.at lt_at mem_at bel_new)

def cl (x : Mg) : List Value := [.int .i64 x.kd, .int .i64 x.vw, .int .i64 x.sq, .int .i64 x.fr, .string x.dg, .string x.bd, .string x.mc]
theorem cl_len (x : Mg) : (cl x).length = 7 := rfl
theorem cl_one (x : Mg) : ∀ u ∈ cl x, u.oneCell' = true := by
  intro u hu
  unfold cl at hu
  simp only [List.mem_cons, List.not_mem_nil, or_false] at hu
  rcases hu with h | h | h | h | h | h | h <;> (rw [h]; rfl)
theorem fm_at : ∀ (ms : List Mg) (i : Nat) (x : Mg) (j : Nat), ms[i]? = some x → j < 7 → (ms.flatMap cl)[i * 7 + j]? = (cl x)[j]?
  | [], i, x, j, h, _ => by simp at h
  | y :: ys, 0, x, j, h, hj => by
    simp at h
    subst h
    rw [List.flatMap_cons, Nat.zero_mul, Nat.zero_add, List.getElem?_append_left (by rw [cl_len]; exact hj)]
  | y :: ys, i + 1, x, j, h, hj => by
    have h' : ys[i]? = some x := by simpa using h
    rw [List.flatMap_cons, List.getElem?_append_right (by rw [cl_len]; omega), cl_len, show (i + 1) * 7 + j - 7 = i * 7 + j by omega]
    exact fm_at ys i x j h' hj
def OwnM (w : World) (B : Nat) (v : Value) (ms : List Mg) : Prop := w.ownsRow B 59 7 v ms.length (ms.flatMap cl)
theorem OwnM.row {w : World} {B : Nat} {v : Value} {ms : List Mg} (h : OwnM w B v ms) : Row w v ms := by
  obtain ⟨hl, h⟩ := h
  rcases h with ⟨rfl, h0⟩ | ⟨g, cap, cur, rfl, hB, hg, hc, _, hs, htk⟩
  · exact ⟨none, 0, by rw [h0], .inl (List.length_eq_zero_iff.1 h0)⟩
  · refine ⟨_, cap, rfl, .inr ⟨g, 0, rfl, hc, (Array.getElem?_eq_some_iff.1 hg).1, fun i x hi => ?_⟩⟩
    have hil := lt_at hi
    have key : ∀ j u, j < 7 → (cl x)[j]? = some u → w.cell? ⟨g, 0 + i * 7 + j, none⟩ = some u := fun j u hj hu => by
      rw [Nat.zero_add, Joins.cell_of_block hg, ← Array.getElem?_toList]
      have h1 := fm_at ms i x j hi hj
      rw [← htk, List.getElem?_take, if_pos (by omega)] at h1
      rw [h1, hu]
    exact ⟨key 0 _ (by decide) rfl, key 1 _ (by decide) rfl, key 2 _ (by decide) rfl, key 3 _ (by decide) rfl, key 4 _ (by decide) rfl, key 5 _ (by decide) rfl, key 6 _ (by decide) rfl⟩
theorem OwnM.kept {w w' : World} {B : Nat} {v : Value} {ms : List Mg} (h : OwnM w B v ms) (hk : ∀ g, v.ownBlock = some g → w'.heap[g]? = w.heap[g]?) : OwnM w' B v ms := by
  obtain ⟨hl, h⟩ := h
  refine ⟨hl, ?_⟩
  rcases h with h | ⟨g, cap, cur, rfl, h1, hg, h2⟩
  · exact .inl h
  · exact .inr ⟨g, cap, cur, rfl, h1, (hk g rfl).trans hg, h2⟩
theorem OwnM.lt {w : World} {B : Nat} {v : Value} {ms : List Mg} (h : OwnM w B v ms) : ∀ g, v.ownBlock = some g → B ≤ g ∧ g < w.heap.size := World.ownsRow.lt h
theorem OwnM.below {w w' : World} {B : Nat} {v : Value} {ms : List Mg} (h : OwnM w B v ms) (hb : Below w.heap.size w w') : OwnM w' B v ms := h.kept fun g hg => hb.block g (h.lt g hg).2
theorem OwnM.mono {w : World} {B B' : Nat} {v : Value} {ms : List Mg} (h : OwnM w B v ms) (hb : B' ≤ B) : OwnM w B' v ms := by
  obtain ⟨hl, h⟩ := h
  refine ⟨hl, ?_⟩
  rcases h with h | ⟨g, cap, cur, rfl, h1, hg, h2⟩
  · exact .inl h
  · exact .inr ⟨g, cap, cur, rfl, Nat.le_trans hb h1, hg, h2⟩
theorem OwnM.nil (w : World) (B : Nat) : OwnM w B (.slice none 0 0) [] := World.ownsRow_nil _ _ _ _
theorem OwnM.made (w : World) (B : Nat) (hB : B ≤ w.heap.size) : OwnM (w.alloc (.cells #[] 59)) B (.slice (some ⟨w.heap.size, 0, none⟩) 0 0) [] := World.ownsRow_made w #[] 0 hB (by decide) rfl
theorem OwnM.alloc {w : World} {B : Nat} {v : Value} {ms : List Mg} (h : OwnM w B v ms) (o : Obj) : OwnM (w.alloc o) B v ms := h.below (bel_new _ _)
theorem info_m : (Tryz.prog.info? 59).map (fun i => (i.zero, i.size, i.bytes)) = some (some (.agg #[.int .i64 0, .int .i64 0, .int .i64 0, .int .i64 0, .string ⟨#[]⟩, .string ⟨#[]⟩, .string ⟨#[]⟩]), 7, 80) := by kernel_rfl
def Kq (W w' : World) (v v' : Value) : Prop := ∀ k, k < W.heap.size → some k ≠ v.ownBlock → w'.heap[k]? = W.heap[k]? ∧ some k ≠ v'.ownBlock
theorem list_msg {P : Program} {ops : Array Oper} {rest : List Oper} {o : Oper} {a : Act} {Q : Exit → Act → World → Prop} (hgd : o.guard = none) (s x : Operand) (t : TypeId)
    (ho : o.op = .call { callee := .builtin .append, args := #[s, x], argTypes := #[t, t] }) (i : TypeInfo) (ht : P.underlying t = some (.slice 59)) (hi : P.info? 59 = some i) (hz : i.zero = some (.agg #[.int .i64 0, .int .i64 0, .int .i64 0, .int .i64 0, .string ⟨#[]⟩, .string ⟨#[]⟩, .string ⟨#[]⟩]))
    (hsize : i.size = 7) (hby : i.bytes = 80) (B : Nat) (w0 W : World) (v : Value) (ms : List Mg) (m : Mg) (hs : a.eval s = v) (hown : OwnM W B v ms) (hg0 : Below B w0 W) (hB : B ≤ W.heap.size)
    (gx : Nat) (hx : a.eval x = .slice (some ⟨gx, 0, none⟩) 1 1) (hgx : W.heap.size = gx) (hlen : ms.length ≤ 1000000)
    (h : ∀ v' w', OwnM w' B v' (ms ++ [m]) → Below B w0 w' → Kq W w' v v' → wpList P ops Q rest (a.put o.dst v') w') : wpList P ops Q (o :: rest) a (W.alloc (.cells #[.int .i64 m.kd, .int .i64 m.vw, .int .i64 m.sq, .int .i64 m.fr, .string m.dg, .string m.bd, .string m.mc] 59)) := by
  subst hgx
  have hown' := hown.alloc (.cells #[.int .i64 m.kd, .int .i64 m.vw, .int .i64 m.sq, .int .i64 m.fr, .string m.dg, .string m.bd, .string m.mc] 59)
  refine wpList_append_own_at (P := P) _ hgd s x t ho B 59 i _ 7 80 ht hi hz hsize hby rfl (by decide) v ms.length _ hs hown' ⟨W.heap.size, 0, none⟩ 1 1 (cl m) hx rfl ?_ (cl_one m) (by unfold maxLen; omega) (by omega) (by simp; omega) ?_
  · intro j u hj
    have h2 : (⟨W.heap.size, 0, none⟩ : Addr).add j = ⟨W.heap.size, j, none⟩ := by unfold Addr.add; split <;> simp_all
    rw [h2, Joins.cell_of_block (heap_alloc_new W _), ← hj]
    simp [cl]
  · intro v' w' h1 h2 h3 h4
    refine h v' w' (by unfold OwnM; rw [List.flatMap_append, List.length_append]; simpa using h1) ((hg0.alloc hB _).grown h2 (by simp; omega) (fun k hk => (hown'.lt k hk).1)) (fun k hk hn => ⟨(h2.block k (by simp; omega) hn).trans (Below.heap_alloc W _ k hk), fun e => ?_⟩)
    rcases h4 with h4 | h4
    · exact hn (e.trans h4)
    · rw [h4] at e
      simp at e
      omega
theorem rd_ex (t : ByteArray) : ∃ (m : Mg) (c : Int), readMsg (bys t) = .tuple #[oneV m, .int .i64 c] := by
  obtain ⟨kd, vw, sq, fr, dg, bd, mc, code, h⟩ := readMsg_form (bys t)
  exact ⟨⟨kd, vw, sq, fr, dg, bd, mc⟩, code, h⟩
noncomputable def mOf (t : ByteArray) : Mg := (rd_ex t).choose
noncomputable def cOf (t : ByteArray) : Int := (rd_ex t).choose_spec.choose
theorem rd_eq (t : ByteArray) : readMsg (bys t) = .tuple #[oneV (mOf t), .int .i64 (cOf t)] := (rd_ex t).choose_spec.choose_spec
theorem tup_inj {a b : Value} {c d : Int} (h : Value.tuple #[a, .int .i64 c] = .tuple #[b, .int .i64 d]) : a = b ∧ c = d := by
  injection h with h
  have h2 := congrArg Array.toList h
  simp at h2
  exact h2
theorem one_inj {x y : Mg} (h : oneV x = oneV y) : x = y := by
  unfold oneV at h
  injection h with h
  have h2 := congrArg Array.toList h
  cases x
  cases y
  simp at h2
  simp [h2]
theorem ok_right (t : ByteArray) (h : cOf t = 0) : mB (mOf t) = true := by
  have e := rd_eq t
  rw [h] at e
  unfold readMsg rjV at e
  split at e
  · obtain ⟨_, h2⟩ := tup_inj e
    cases h2
  · split at e
    · rename_i h3
      obtain ⟨h1, _⟩ := tup_inj e
      rw [Bool.and_eq_true, Bool.and_eq_true] at h3
      have h4 := h3.2.2
      have h5 := one_inj (x := ⟨_, _, _, _, _, _, _⟩) h1
      rw [← h5]
      exact h4
    · obtain ⟨_, h2⟩ := tup_inj e
      cases h2
theorem l02ReadMessage_any (s : ByteArray) (w : World) (hs : s.size ≤ 65536) :
    Calls Tryz.prog 121 #[.string s] w fun e w' => (∃ m : Mg, e = .returned (.tuple #[oneV m, .bool (decide (cOf s = 0))]) ∧ (cOf s = 0 → m = mOf s)) ∧ Below w.heap.size w w' := by
  have hr := bys_range s
  have e0 := str_bys s
  have hsz : (bys s).length = s.size := bys_length s
  have hD := mD_lt (bys s) hr
  have hNe := mN_eq (bys s) hr
  have hRE := rd_eq s
  have h4e : ∀ h : 4 < (strOfNums (bys s)).size, ((strOfNums (bys s))[4]'h).toNat = mD (bys s) := by
    intro h
    have := str_at (bys s) hr 4 h
    unfold mD
    omega
  have hz := strOfNums_size (bys s)
  by_cases hyes : (bys s).length = 15 + mD (bys s) + mN (bys s)
  · obtain ⟨e1, e2, e3, e4, e5, e6, e7, e8, e9⟩ := eq_msg_yes (bys s) hr hyes
    have HY := l02ReadMessage_yes (strOfNums (bys s)) w (mD (bys s)) (mN (bys s)) (by omega) (by omega) (h4e (by omega)) hNe (by omega)
    have HE : readMsg (bys s) = if msgB (nth (bys (strOfNums (bys s))) 0) (nth (bys (strOfNums (bys s))) 1) (nth (bys (strOfNums (bys s))) 2) (nth (bys (strOfNums (bys s))) 3) ((strOfNums (bys s)).extract 5 (5 + mD (bys s))) ((strOfNums (bys s)).extract (5 + mD (bys s) + 2) (5 + mD (bys s) + 2 + mN (bys s))) ((strOfNums (bys s)).extract (5 + mD (bys s) + 2 + mN (bys s)) (strOfNums (bys s)).size) then .tuple #[.agg #[.int .i64 (nth (bys (strOfNums (bys s))) 0), .int .i64 (nth (bys (strOfNums (bys s))) 1), .int .i64 (nth (bys (strOfNums (bys s))) 2), .int .i64 (nth (bys (strOfNums (bys s))) 3), .string ((strOfNums (bys s)).extract 5 (5 + mD (bys s))), .string ((strOfNums (bys s)).extract (5 + mD (bys s) + 2) (5 + mD (bys s) + 2 + mN (bys s))), .string ((strOfNums (bys s)).extract (5 + mD (bys s) + 2 + mN (bys s)) (strOfNums (bys s)).size)], .int .i64 0] else .tuple #[.agg zmsg, .int .i64 3] := by
      unfold readMsg; rw [e1, e2, e3, e4, e5, e6, e7, e8, e9, decide_eq_false (by omega)]; rfl
    rw [hRE] at HE
    clear e1 e2 e3 e4 e5 e6 e7 e8 e9 hyes h4e hNe hD
    generalize (strOfNums (bys s)).extract 5 (5 + mD (bys s)) = dg at HE HY
    generalize (strOfNums (bys s)).extract (5 + mD (bys s) + 2 + mN (bys s)) (strOfNums (bys s)).size = mc at HE HY
    generalize (strOfNums (bys s)).extract (5 + mD (bys s) + 2) (5 + mD (bys s) + 2 + mN (bys s)) = bd at HE HY
    generalize nth (bys (strOfNums (bys s))) 0 = kd at HE HY
    generalize nth (bys (strOfNums (bys s))) 1 = vw at HE HY
    generalize nth (bys (strOfNums (bys s))) 2 = sq at HE HY
    generalize nth (bys (strOfNums (bys s))) 3 = fr at HE HY
    rw [e0] at HY
    refine HY.mono ?_
    rintro e w' ⟨rfl, b⟩
    refine ⟨⟨⟨kd, vw, sq, fr, dg, bd, mc⟩, ?_, fun hc => ?_⟩, b⟩
    · cases hq : msgB kd vw sq fr dg bd mc with
      | true =>
        rw [hq] at HE
        obtain ⟨_, h2⟩ := tup_inj HE
        rw [decide_eq_true h2]
        rfl
      | false =>
        rw [hq] at HE
        obtain ⟨_, h2⟩ := tup_inj HE
        rw [decide_eq_false (by omega)]
        rfl
    · cases hq : msgB kd vw sq fr dg bd mc with
      | true =>
        rw [hq] at HE
        obtain ⟨h1, _⟩ := tup_inj HE
        exact (one_inj (x := mOf s) (y := ⟨kd, vw, sq, fr, dg, bd, mc⟩) h1).symm
      | false =>
        rw [hq] at HE
        obtain ⟨_, h2⟩ := tup_inj HE
        omega
  · have hno : ∀ h : 4 < (strOfNums (bys s)).size, (strOfNums (bys s)).size < 7 ∨ (strOfNums (bys s)).size < 7 + ((strOfNums (bys s))[4]'h).toNat ∨ (7 + ((strOfNums (bys s))[4]'h).toNat ≤ (strOfNums (bys s)).size ∧ ((strOfNums (bys s)).size : Int) ≠ 5 + (((strOfNums (bys s))[4]'h).toNat : Int) + 2 + beN (bys ((strOfNums (bys s)).extract (5 + ((strOfNums (bys s))[4]'h).toNat) (5 + ((strOfNums (bys s))[4]'h).toNat + 2))) + 8) := by
      intro h
      rw [h4e h, hNe]
      omega
    have HN : readMsg (bys s) = .tuple #[.agg zmsg, .int .i64 3] := by unfold readMsg; rw [eq_msg_no (bys s) hyes, decide_eq_false (by omega)]; rfl
    have HY := l02ReadMessage_no (strOfNums (bys s)) w (by omega) hno
    rw [hRE] at HN
    obtain ⟨_, h2⟩ := tup_inj HN
    rw [e0] at HY
    refine HY.mono ?_
    rintro e w' ⟨rfl, b⟩
    refine ⟨⟨⟨0, 0, 0, 0, ⟨#[]⟩, ⟨#[]⟩, ⟨#[]⟩⟩, ?_, fun hc => by omega⟩, b⟩
    rw [decide_eq_false (by omega)]
    rfl
end Go.Proofs.YtondmbeccpekiaaGreatDoor.Rc

/- Certificates are read: the program. -/
namespace Go.Proofs.YtondmbeccpekiaaGreatDoor.Rc
open Go.RowKit Go.Proofs.YtondmbeccpekiaaGreatDoor.Sl Go.Proofs.YtondmbeccpekiaaGreatDoor.By Go.Proofs.YtondmbeccpekiaaGreatDoor.Ap Go.Proofs.YtondmbeccpekiaaGreatDoor.Rq Go.Proofs.YtondmbeccpekiaaGreatDoor.Rr Go.Proofs.YtondmbeccpekiaaGreatDoor.Of Go.Proofs.YtondmbeccpekiaaGreatDoor.Om Go.Proofs.YtondmbeccpekiaaGreatDoor.Ms Go.Proofs.YtondmbeccpekiaaGreatDoor.Gm Go.Proofs.YtondmbeccpekiaaGreatDoor.Cb
open Go.Proofs.YtondmbeccpekiaaGreatDoor.Ty (RowT tnth)
open Go.Proofs.YtondmbeccpekiaaGreatDoor.Tl (OwnS)
open Go.Proofs.YtondmbeccpekiaaGreatDoor.Rl (rdC rdL implReadList_any)
open Go.Proofs.YtondmbeccpekiaaGreatDoor.Rg (RowG RowG.slice RowG.at lt_at mem_at bel_new)

theorem bytes_run (s : ByteArray) (w : World) : ∃ v' w', (convert 9 107 (.string s)).run Tryz.prog w = .ok v' w' ∧ RowB w' v' (bys s) ∧ Below w.heap.size w w' := by
  refine ⟨_, _, Lib.run_convert_string_bytes w 9 107 5 s (u := .string) Tryz.underlying9 Tryz.underlying107 Tryz.underlying5, ⟨_, _, by rw [bys_length], .inr ⟨w.heap.size, 0, rfl, by rw [bys_length]; exact grownCap_ge _ _ _ _, by rw [Lib.bytesWorld_size]; omega, fun i hi => ?_⟩, bys_range s⟩, ?_⟩
  · rw [bys_length] at hi
    rw [Nat.zero_add, Lib.bytesWorld_cell w 5 s i hi]
    unfold nth bys
    have hi' : i < s.data.toList.length := by simpa using hi
    rw [List.getD_eq_getElem?_getD, List.getD_eq_getElem?_getD, List.getElem?_map, List.getElem?_eq_getElem hi']
    rfl
  · refine ⟨?_, ?_, ?_, by rw [Lib.bytesWorld_size]; omega, fun k hk => Lib.bytesWorld_at_old w _ s k hk⟩ <;> simp [Lib.bytesWorld, World.freeze, World.alloc, World.drew, -World.alloc_eq, -World.drew_eq]
noncomputable def okT1 (t : ByteArray) : Bool := decide (cOf t = 0)
noncomputable def allOK (ts : List ByteArray) : Bool := ts.all okT1
noncomputable def msOf (ts : List ByteArray) : List Mg := ts.map mOf
noncomputable def rmOut (ts : List ByteArray) : List Mg := if allOK ts then msOf ts else []
theorem at_some {ts : List ByteArray} {k : Nat} (h : k < ts.length) : ts[k]? = some (tnth ts k) := by
  unfold tnth; rw [List.getD_eq_getElem?_getD, List.getElem?_eq_getElem h]; rfl
theorem ok_step {ts : List ByteArray} {k : Nat} (h : k < ts.length) : allOK (ts.drop k) = (okT1 (tnth ts k) && allOK (ts.drop (k + 1))) := by
  have e := at_some h
  obtain ⟨hk, e2⟩ := List.getElem?_eq_some_iff.1 e
  unfold allOK
  rw [List.drop_eq_getElem_cons hk, List.all_cons, e2]
theorem ms_step {ts : List ByteArray} {k : Nat} (h : k < ts.length) : msOf (ts.take (k + 1)) = msOf (ts.take k) ++ [mOf (tnth ts k)] := by
  unfold msOf
  rw [List.take_add_one, at_some h]
  simp
theorem ret_vb {v : Value} {a b : Bool} (h : a = b) : Ending.returned (.tuple #[v, .bool a]) = .returned (.tuple #[v, .bool b]) := by rw [h]
set_option maxRecDepth 100000 in
set_option maxHeartbeats 1600000 in
theorem readMessages_any (v : Value) (ts : List ByteArray) (w : World) (h : RowT w v ts) (hl : ts.length ≤ 1000000) (hs : ∀ t ∈ ts, t.size ≤ 1048576) :
    Calls Tryz.prog 195 #[v] w fun e w' => ∃ v', e = .returned (.tuple #[v', .bool (allOK ts)]) ∧ OwnM w' w.heap.size v' (rmOut ts) ∧ Below w.heap.size w w' := by
  obtain ⟨i0, hi0, hz0, hz1, hz2⟩ := info_parts info_m
  have HR : Hid (RowT w v ts) := h
  obtain ⟨a, cap, rfl, _⟩ := h
  have HS : Hid (∀ t ∈ ts, t.size ≤ 1048576) := hs
  clear hs
  go_enter Tryz.func195, Tryz.ntmps195
  go_wp2_with fail
  go_loopw [4, 11] (fun b i wr => ∃ k : Nat, k ≤ ts.length ∧ i = .int .i64 k ∧ Hid (OwnM wr w.heap.size b (msOf (ts.take k)) ∧ allOK ts = allOK (ts.drop k) ∧ Below w.heap.size w wr)) (fun _ i _ => ts.length - (intOf i).toNat)
  case atStart => exact ⟨0, by omega, rfl, ⟨OwnM.nil _ _, by rw [List.drop_zero], Below.refl _ _⟩⟩
  case round =>
    obtain ⟨k, hk, rfl, HO⟩ := hrel
    obtain ⟨v0, rfl⟩ : ∃ v0, v0 = u4 := ⟨_, rfl⟩
    by_cases hlt : k < ts.length
    · obtain ⟨a', cap', he, hc⟩ := HR.out.below HO.out.2.2
      rcases hc with hc | ⟨b, off, rfl, _, hbl, hcell⟩
      · exact absurd hlt (by rw [hc]; simp)
      cases he
      have c0 := hcell k hlt
      have HST := ok_step hlt
      have HMS := ms_step hlt
      have HTS : Hid ((tnth ts k).size ≤ 1048576) := HS.out _ (List.mem_of_getElem? (at_some hlt))
      have HLN : Hid ((msOf (ts.take k)).length ≤ 1000000) := by show _ ≤ _; unfold msOf; rw [List.length_map, List.length_take]; omega
      have HSTP : Hid (allOK (ts.drop k) = (okT1 (tnth ts k) && allOK (ts.drop (k + 1)))) := HST
      have HMSP : Hid (msOf (ts.take (k + 1)) = msOf (ts.take k) ++ [mOf (tnth ts k)]) := HMS
      clear hcell HST HMS
      generalize tnth ts k = t at c0 HSTP HMSP HTS
      obtain ⟨v2, w2, hcv, r2, b2⟩ := bytes_run t wr
      have HRM := implReadMessage_any v2 (bys t) w2 r2 (by rw [bys_length]; exact HTS.out)
      rw [rd_eq] at HRM
      have HCE : Hid (okT1 t = decide (cOf t = 0)) := rfl
      have B2 : Hid (Below wr.heap.size wr w2) := b2
      have HRM2 : Hid (Calls Tryz.prog 200 #[v2] w2 fun e w' => e = .returned (.tuple #[oneV (mOf t), .int .i64 (cOf t)]) ∧ Below w2.heap.size w2 w') := HRM
      clear r2 b2 HRM
      generalize mOf t = m at HRM2 HMSP
      generalize cOf t = cd at HRM2 HCE
      generalize okT1 t = ok1 at HSTP HCE
      unfold oneV at HRM2
      go_wp2_with fail
      refine HRM2.out.mono ?_
      rintro e w3 ⟨rfl, b3⟩
      have B3 : Hid (Below wr.heap.size wr w3) := B2.out.trans (b3.mono B2.out.size)
      clear b3 HRM2 hcv c0
      by_cases hcd : cd = 0
      · rw [decide_eq_true hcd] at HCE
        have HA : Hid (allOK ts = allOK (ts.drop (k + 1))) := by show _ = _; rw [HO.out.2.1, HSTP.out, HCE.out]; rfl
        have hcd' : (cd != 0) = false := by simp [hcd]
        have b4 := B3.out.trans ((bel_new w3 (.cells #[.int .i64 m.kd, .int .i64 m.vw, .int .i64 m.sq, .int .i64 m.fr, .string m.dg, .string m.bd, .string m.mc] 59)).mono B3.out.size)
        have O4 : Hid (OwnM (w3.alloc (.cells #[.int .i64 m.kd, .int .i64 m.vw, .int .i64 m.sq, .int .i64 m.fr, .string m.dg, .string m.bd, .string m.mc] 59)) w.heap.size v0 (msOf (ts.take k)) ∧ Below w.heap.size w (w3.alloc (.cells #[.int .i64 m.kd, .int .i64 m.vw, .int .i64 m.sq, .int .i64 m.fr, .string m.dg, .string m.bd, .string m.mc] 59))) := ⟨HO.out.1.below b4, HO.out.2.2.trans (b4.mono HO.out.2.2.size)⟩
        clear hcd HCE HSTP HO B2 B3 b4
        go_wp2_with (at_builtin; go_must (refine list_msg (by rfl) _ _ 32 (by rfl) i0 Tryz.underlying32 hi0 hz0 hz1 hz2 w.heap.size w _ _ _ m (by rfl) O4.out.1 O4.out.2 O4.out.2.size _ (by rfl) (by simp) HLN.out ?_; intro v5 w5 o5 b5 _))
        exact ⟨⟨k + 1, by omega, by go_num, ⟨by rw [HMSP.out]; exact o5, HA.out, b5⟩⟩, by simp [intOf]; omega⟩
      · rw [decide_eq_false hcd] at HCE
        have HA : Hid (allOK ts = false) := by show _ = _; rw [HO.out.2.1, HSTP.out, HCE.out]; rfl
        have HA2 : Hid (rmOut ts = []) := by show _ = _; unfold rmOut; rw [HA.out]; rfl
        have hcd' : (cd != 0) = true := by simp [hcd]
        have B4 : Hid (Below w.heap.size w (w3.alloc (.cells #[.int .i64 m.kd, .int .i64 m.vw, .int .i64 m.sq, .int .i64 m.fr, .string m.dg, .string m.bd, .string m.mc] 59))) := HO.out.2.2.trans ((B3.out.trans ((bel_new w3 _).mono B3.out.size)).mono HO.out.2.2.size)
        clear hcd HCE HSTP HO B2 B3
        go_wp2_with fail
        go_ret2
        exact ⟨_, ret_vb HA.out.symm, by rw [HA2.out]; exact OwnM.nil _ _, B4.out⟩
    · obtain rfl : k = ts.length := by omega
      rw [List.take_length, List.drop_length] at HO
      have HA : Hid (allOK ts = true) := HO.out.2.1.trans rfl
      have HA2 : Hid (rmOut ts = msOf ts) := by show _ = _; unfold rmOut; rw [HA.out]; rfl
      go_wp2_with fail
      go_ret2
      exact ⟨_, ret_vb HA.out.symm, by rw [HA2.out]; exact HO.out.1, HO.out.2.2⟩
noncomputable def rcOK (xs : List Int) : Bool := decide (rdC xs = 0) && (match rdL xs with | [] => false | _ :: ts => allOK ts && cfB (msOf ts))
noncomputable def rcCode (xs : List Int) : Int := if rcOK xs then 0 else if rdC xs = 0 then 3 else rdC xs
noncomputable def rcBd (xs : List Int) : ByteArray := if rcOK xs then (match rdL xs with | [] => ⟨#[]⟩ | t :: _ => t) else ⟨#[]⟩
noncomputable def rcMs (xs : List Int) : List Mg := if rcOK xs then (match rdL xs with | [] => [] | _ :: ts => msOf ts) else []
theorem rc_no {xs : List Int} (h : rcOK xs = false) : rcBd xs = ⟨#[]⟩ ∧ rcMs xs = [] ∧ rcCode xs = (if rdC xs = 0 then 3 else rdC xs) := by unfold rcBd rcMs rcCode; rw [h]; exact ⟨rfl, rfl, rfl⟩
theorem rc_yes {xs : List Int} {t : ByteArray} {ts : List ByteArray} (h0 : rdC xs = 0) (hL : rdL xs = t :: ts) (h1 : allOK ts = true) (h2 : cfB (msOf ts) = true) : rcBd xs = t ∧ rcMs xs = msOf ts ∧ rcCode xs = 0 := by
  have h : rcOK xs = true := by unfold rcOK; rw [hL, h0]; simp only; rw [h1, h2]; rfl
  unfold rcBd rcMs rcCode
  rw [h, hL]
  exact ⟨rfl, rfl, rfl⟩
theorem rdL_size (xs : List Int) (hr : ∀ x ∈ xs, 0 ≤ x ∧ x ≤ 255) : ∀ t ∈ rdL xs, t.size ≤ 65535 := by
  intro t ht
  unfold Rl.rdL Rl.rlO at ht
  split at ht
  · obtain ⟨j, hj, e⟩ := List.mem_iff_getElem.1 ht
    have hj2 : j < Tl.tlN xs := by rw [Tl.lT_length] at hj; exact hj
    have h1 := Rl.lT_at (tkR 1 xs) _ _ hj2
    have h2 := at_some hj
    rw [List.getElem?_eq_getElem hj, e] at h2
    rw [Option.some.inj h2, h1]
    exact Rl.txt_small _ (Tl.lR_range (tkR_range (n := 1) hr) j)
  · cases ht
end Go.Proofs.YtondmbeccpekiaaGreatDoor.Rc
