/- Texts put together: Pl, Dj, Pm, Dk, Pn. -/
import Derived.Test.YtkfiahemgdppfaaGreatDoorM19
import Derived.Deep.Upon
import Derived.Test.YtkfiahemgdppfaaGreatDoorM18
import Derived.Test.YtkfiahemgdppfaaGreatDoorM1
/- The plan of a quorum: plain facts; certificates in a row that is read. -/
namespace Go.Proofs.YtkfiahemgdppfaaGreatDoor.Pl
open Go.RowKit Go.Proofs.YtkfiahemgdppfaaGreatDoor.Sl Go.Proofs.YtkfiahemgdppfaaGreatDoor.By Go.Proofs.YtkfiahemgdppfaaGreatDoor.Ap Go.Proofs.YtkfiahemgdppfaaGreatDoor.Gm Go.Proofs.YtkfiahemgdppfaaGreatDoor.Sh Go.Proofs.YtkfiahemgdppfaaGreatDoor.Vt Go.Proofs.YtkfiahemgdppfaaGreatDoor.Tm Go.Proofs.YtkfiahemgdppfaaGreatDoor.Wc
open Go.Proofs.YtkfiahemgdppfaaGreatDoor.Rc (OwnM OwnM.row OwnM.kept OwnM.lt OwnM.below OwnM.mono)
open Go.Proofs.YtkfiahemgdppfaaGreatDoor.Qm (qOut)
open Go.Proofs.YtkfiahemgdppfaaGreatDoor.Bw (bdP bdB)
open Go.Proofs.YtkfiahemgdppfaaGreatDoor.Rg (RowG RowG.slice RowG.at lt_at mem_at blk_cell blk_set blk_far bel_new)

/-- Of each place the best body so far and one more than its view (0 without one). -/
def stp (st : Nat → ByteArray × Int) (c : Ct) : Nat → ByteArray × Int := fun i => if (i : Int) + 1 = (hd c).sq ∧ (st i).2 ≤ (hd c).vw then (c.bd, (hd c).vw + 1) else st i
def st0 : Nat → ByteArray × Int := fun _ => (⟨#[]⟩, 0)
def stOf (cs : List Ct) : Nat → ByteArray × Int := cs.foldl stp st0
def lastOf (cs : List Ct) : Nat := cs.foldl (fun m c => max m (hd c).sq.toNat) 0
theorem stOf_snoc (cs : List Ct) (c : Ct) : stOf (cs ++ [c]) = stp (stOf cs) c := by unfold stOf; rw [List.foldl_append]; rfl
theorem lastOf_snoc (cs : List Ct) (c : Ct) : lastOf (cs ++ [c]) = max (lastOf cs) (hd c).sq.toNat := by unfold lastOf; rw [List.foldl_append]; rfl
/-- What is known of a certificate that is right. -/
def Right (c : Ct) : Prop := c.ms[0]? = some (hd c) ∧ (1 ≤ (hd c).sq ∧ (hd c).sq ≤ 8) ∧ (0 ≤ (hd c).vw ∧ (hd c).vw ≤ 20) ∧ c.bd.size ≠ 0
theorem empty_no {s : ByteArray} (h : s.size = 0) : Tkb.rbOK (bys s) = false := by
  have e0 : s = ⟨#[]⟩ := ByteArray.ext (Array.eq_empty_of_size_eq_zero h)
  subst e0
  exact Tkb.rb_nil
theorem crt_right {n : Int} {c : Ct} (h : crtB n c.bd c.ms = true) : Right c := by
  obtain ⟨h1, h2, h3, h4, h5⟩ := crt_hd h
  refine ⟨h1, ⟨h2, h3⟩, ⟨h4, h5⟩, fun h0 => ?_⟩
  have hb := (bOf_iff.1 h).2.2.1
  unfold bdP bdB at hb
  rw [empty_no h0] at hb
  simp at hb
theorem crts_right {n view : Int} {x : Mg} (h : cfB n view x = true) : ∀ c ∈ crts x, Right c := fun c hc => by
  have h6 := (bOf_iff.1 h).2.2.2.2.2
  unfold crts at hc
  obtain ⟨t, ht, rfl⟩ := List.mem_map.1 hc
  obtain ⟨j, hj, e⟩ := List.getElem_of_mem ht
  have h7 := (bOf_iff.1 h6 j hj).1
  have e2 : Ty.tnth (Rl.rdL (bys x.bd)) j = t := by
    have := Rc.at_some hj
    rw [List.getElem?_eq_getElem hj, e] at this
    exact (Option.some.inj this).symm
  rw [e2] at h7
  unfold okC at h7
  rw [Bool.and_eq_true] at h7
  exact crt_right h7.2
/-- What holds of the places. -/
def Inv (st : Nat → ByteArray × Int) : Prop := ∀ i, 0 ≤ (st i).2 ∧ (st i).2 ≤ 21 ∧ ((st i).2 = 0 → st i = (⟨#[]⟩, 0)) ∧ ((st i).2 ≠ 0 → (st i).1.size ≠ 0)
theorem inv0 : Inv st0 := fun i => ⟨by show (0 : Int) ≤ 0; omega, by show (0 : Int) ≤ 21; omega, fun _ => rfl, fun h => absurd rfl h⟩
theorem inv_step {st : Nat → ByteArray × Int} {c : Ct} (h : Inv st) (hc : Right c) : Inv (stp st c) := fun i => by
  unfold stp
  split
  · refine ⟨?_, ?_, fun h0 => ?_, fun _ => hc.2.2.2⟩
    · show 0 ≤ (hd c).vw + 1; have := hc.2.2.1.1; omega
    · show (hd c).vw + 1 ≤ 21; have := hc.2.2.1.2; omega
    · have h1 : (hd c).vw + 1 = 0 := h0
      have := hc.2.2.1.1
      omega
  · exact h i
theorem inv_take {cs : List Ct} (h : ∀ c ∈ cs, Right c) : ∀ k, k ≤ cs.length → Inv (stOf (cs.take k)) ∧ lastOf (cs.take k) ≤ 8 ∧ ∀ i, lastOf (cs.take k) ≤ i → stOf (cs.take k) i = (⟨#[]⟩, 0)
  | 0, _ => ⟨inv0, Nat.zero_le _, fun i _ => rfl⟩
  | k + 1, hk => by
    obtain ⟨h1, h2, h3⟩ := inv_take h k (by omega)
    obtain ⟨c, hx⟩ := Rg.get_at (xs := cs) (k := k) (by omega)
    have hc := h c (mem_at hx)
    have e : cs.take (k + 1) = cs.take k ++ [c] := by rw [List.take_add_one, hx]; rfl
    rw [e, stOf_snoc, lastOf_snoc]
    have hs := hc.2.1
    refine ⟨inv_step h1 hc, by omega, fun i hi => ?_⟩
    unfold stp
    rw [if_neg (by rintro ⟨e, _⟩; omega)]
    exact h3 i (by omega)
theorem inv_of {cs : List Ct} (h : ∀ c ∈ cs, Right c) : Inv (stOf cs) ∧ lastOf cs ≤ 8 ∧ ∀ i, lastOf cs ≤ i → stOf cs i = (⟨#[]⟩, 0) := by
  have := inv_take h cs.length (Nat.le_refl _)
  rw [List.take_length] at this
  exact this
def nulB : ByteArray := ⟨#[0]⟩
def ent (st : Nat → ByteArray × Int) (i : Nat) : ByteArray := if (st i).2 = 0 then nulB else (st i).1
def planL (cs : List Ct) : List ByteArray := (List.range (lastOf cs)).map (ent (stOf cs))
/-- Certificates in a row, each with its votes in a row. -/
structure RdC (w : World) (B : Nat) (v : Value) (ps : List (Ct × Value)) : Prop where
  row : w.ownsRow B 37 2 v ps.length (ps.flatMap cc)
  mem : ∀ p ∈ ps, OwnM w B p.2 p.1.ms
theorem RdC.of {w : World} {B : Nat} {v : Value} {ps : List (Ct × Value)} (h : OwnC w B v ps) : RdC w B v ps := ⟨h.row, h.mem⟩
theorem RdC.lt {w : World} {B : Nat} {v : Value} {ps : List (Ct × Value)} (h : RdC w B v ps) : ∀ g, v.ownBlock = some g → B ≤ g ∧ g < w.heap.size := World.ownsRow.lt h.row
theorem RdC.below {w w' : World} {B : Nat} {v : Value} {ps : List (Ct × Value)} (h : RdC w B v ps) (hb : Below w.heap.size w w') : RdC w' B v ps :=
  ⟨row_kept h.row fun g hg => hb.block g (h.lt g hg).2, fun p hp => (h.mem p hp).below hb⟩
theorem RdC.mono {w : World} {B B' : Nat} {v : Value} {ps : List (Ct × Value)} (h : RdC w B v ps) (hb : B' ≤ B) : RdC w B' v ps := ⟨row_mono h.row hb, fun p hp => (h.mem p hp).mono hb⟩
theorem RdC.nil (w : World) (B : Nat) : RdC w B (.slice none 0 0) [] := RdC.of (OwnC.nil w B)
theorem RdC.slice {w : World} {B : Nat} {v : Value} {ps : List (Ct × Value)} (h : RdC w B v ps) : ∃ a cap, v = .slice a ps.length cap := by
  obtain ⟨hl, h⟩ := h.row
  rcases h with ⟨rfl, h0⟩ | ⟨g, cap, cur, rfl, h1, hg, h2⟩
  · exact ⟨none, 0, by rw [h0]⟩
  · exact ⟨_, cap, rfl⟩
theorem RdC.at {w : World} {B : Nat} {a : Option Addr} {l cap : Nat} {ps : List (Ct × Value)} {i : Nat} {p : Ct × Value} (h : RdC w B (.slice a l cap) ps) (hi : ps[i]? = some p) : ∃ g, a = some ⟨g, 0, none⟩ ∧ B ≤ g ∧ g < w.heap.size ∧ w.cell? ⟨g, i * 2, none⟩ = some (.string p.1.bd) ∧ w.cell? ⟨g, i * 2 + 1, none⟩ = some p.2 := by
  have hil := lt_at hi
  obtain ⟨hl, hh⟩ := h.row
  rcases hh with ⟨_, h0⟩ | ⟨g, cap', cur, e, hB, hg, hc, _, hs, htk⟩
  · omega
  · cases e
    have key : ∀ j u, j < 2 → (cc p)[j]? = some u → w.cell? ⟨g, i * 2 + j, none⟩ = some u := fun j u hj hu => by
      rw [Joins.cell_of_block hg, ← Array.getElem?_toList]
      have h1 := cc_at ps i p j hi hj
      rw [← htk, List.getElem?_take, if_pos (by omega)] at h1
      rw [h1, hu]
    exact ⟨g, rfl, hB, (Array.getElem?_eq_some_iff.1 hg).1, key 0 _ (by decide) rfl, key 1 _ (by decide) rfl⟩
theorem addr_add (g off j : Nat) : (⟨g, off, none⟩ : Addr).add j = ⟨g, off + j, none⟩ := by unfold Addr.add; split <;> simp_all
theorem one_own {w : World} {B : Nat} {v : Value} {ms : List Mg} (h : OwnM w B v ms) : v.oneCell' = true := by
  obtain ⟨a, cap, rfl⟩ := own_slice h
  rfl
/-- Certificates joined behind others. -/
theorem list_certs {P : Program} {ops : Array Oper} {rest : List Oper} {o : Oper} {a : Act} {Q : Exit → Act → World → Prop} (hgd : o.guard = none) (s x : Operand) (t : TypeId)
    (ho : o.op = .call { callee := .builtin .append, args := #[s, x], argTypes := #[t, t] }) (i : TypeInfo) (ht : P.underlying t = some (.slice 37)) (hi : P.info? 37 = some i) (hz : i.zero = some (.agg #[.string ⟨#[]⟩, .slice none 0 0]))
    (hsize : i.size = 2) (hby : i.bytes = 40) (B : Nat) (w0 W : World) (v u : Value) (ps qs : List (Ct × Value)) (hs : a.eval s = v) (hx : a.eval x = u) (hown : RdC W B v ps) (hu : RdC W B u qs) (hg0 : Below B w0 W) (hB : B ≤ W.heap.size) (hlen : ps.length + qs.length ≤ 1000000)
    (h : ∀ v' w', RdC w' B v' (ps ++ qs) → Below B w0 w' → wpList P ops Q rest (a.put o.dst v') w') : wpList P ops Q (o :: rest) a W := by
  obtain ⟨ad, cap, rfl⟩ := hu.slice
  have hrow := hown.row
  have hmk : ∀ (w' : World) (B' : Nat), W.grownBy w' v.ownBlock → ∀ q : Ct × Value, OwnM W B q.2 q.1.ms → OwnM w' B q.2 q.1.ms := fun w' _ h2 q hq => hq.kept fun g hg => h2.block g (hq.lt g hg).2 (fun e => row_ne hown.row hq g hg e)
  cases ad with
  | none =>
    obtain rfl : qs = [] := by
      obtain ⟨_, hh⟩ := hu.row
      rcases hh with ⟨_, h0⟩ | ⟨g, cap', cur, e, _⟩
      · exact List.length_eq_zero_iff.1 h0
      · cases e
    have hr : (Builtin.append_ #[t, t] o.type #[v, .slice none 0 cap]).run P W = .ok v W := by
      rcases hrow.2 with ⟨rfl, _⟩ | ⟨g, c, cur, rfl, _, _, hn, _⟩
      · exact run_append_nothing W t t o.type _ i ht hi none 0 0 (Nat.le_refl _) _ (Src.ofNil W ht cap)
      · exact run_append_nothing W t t o.type _ i ht hi _ _ _ hn _ (Src.ofNil W ht cap)
    refine wpList_plain hgd fun K hK => ?_
    unfold Oper.wp execOp
    simp only [ho, resolve, invoke, builtin, Sem.run_bind, Sem.run_pure, Result.andThen_ok, List.map_toArray, List.map_cons, List.map_nil, hs, hx, List.length_nil, hr]
    exact hK _ _ (h v W (by simpa using hown) hg0)
  | some ad =>
    obtain ⟨g, rfl⟩ : ∃ g, ad = ⟨g, 0, none⟩ := by
      obtain ⟨_, hh⟩ := hu.row
      rcases hh with ⟨e, _⟩ | ⟨g, cap', cur, e, _⟩
      · cases e
      · cases e; exact ⟨g, rfl⟩
    refine wpList_append_own_at (P := P) _ hgd s x t ho B 37 i _ 2 40 ht hi hz hsize hby rfl (by decide) v ps.length _ hs hrow ⟨g, 0, none⟩ qs.length cap (qs.flatMap cc) hx (cc_len qs) ?_ ?_ (by unfold maxLen; omega) (by omega) hB ?_
    · intro j y hy
      have hj : j < qs.length * 2 := by have := (List.getElem?_eq_some_iff.1 hy).1; rw [cc_len] at this; exact this
      obtain ⟨r, hr⟩ := Rg.get_at (xs := qs) (k := j / 2) (by omega)
      obtain ⟨g', e, _, _, E0, E1⟩ := hu.at hr
      cases e
      rw [addr_add, Nat.zero_add]
      have e2 := cc_at qs (j / 2) r (j % 2) hr (by omega)
      rw [show j / 2 * 2 + j % 2 = j by omega, hy] at e2
      rcases Nat.mod_two_eq_zero_or_one j with h0 | h0
      · rw [h0] at e2
        have : y = .string r.1.bd := by simpa [cc] using e2
        rw [this, ← E0]
        congr 2
        omega
      · rw [h0] at e2
        have : y = r.2 := by simpa [cc] using e2
        rw [this, ← E1]
        congr 2
        omega
    · intro y hy
      obtain ⟨r, hr, hy⟩ := List.mem_flatMap.1 hy
      unfold cc at hy
      simp at hy
      rcases hy with rfl | rfl
      · rfl
      · exact one_own (hu.mem r hr)
    · intro v' w' h1 h2 h3 h4
      refine h v' w' ⟨?_, ?_⟩ (hg0.grown h2 hB (fun k hk => (hown.lt k hk).1))
      · rw [List.flatMap_append, List.length_append]; exact h1
      · intro r hr
        rcases List.mem_append.1 hr with hr | hr
        · exact hmk w' B h2 r (hown.mem r hr)
        · exact hmk w' B h2 r (hu.mem r hr)
end Go.Proofs.YtkfiahemgdppfaaGreatDoor.Pl

/- Drawn view changes: plain facts. -/
namespace Go.Proofs.YtkfiahemgdppfaaGreatDoor.Dc
open Go.RowKit Go.Proofs.YtkfiahemgdppfaaGreatDoor.Sl Go.Proofs.YtkfiahemgdppfaaGreatDoor.By Go.Proofs.YtkfiahemgdppfaaGreatDoor.Ap Go.Proofs.YtkfiahemgdppfaaGreatDoor.Gm Go.Proofs.YtkfiahemgdppfaaGreatDoor.Si Go.Proofs.YtkfiahemgdppfaaGreatDoor.Tm Go.Proofs.YtkfiahemgdppfaaGreatDoor.Ms Go.Proofs.YtkfiahemgdppfaaGreatDoor.Sh Go.Proofs.YtkfiahemgdppfaaGreatDoor.Vt Go.Proofs.YtkfiahemgdppfaaGreatDoor.Mp Go.Proofs.YtkfiahemgdppfaaGreatDoor.Rq Go.Proofs.YtkfiahemgdppfaaGreatDoor.Tkb Go.Proofs.YtkfiahemgdppfaaGreatDoor.Cb
open Go.Proofs.YtkfiahemgdppfaaGreatDoor.Wc (Ct ct hd okC lastS OneC GoodC rsB rs_yes crts)
open Go.Proofs.YtkfiahemgdppfaaGreatDoor.Bd (dig)
open Go.Proofs.YtkfiahemgdppfaaGreatDoor.Bw (bdB bdP)
open Go.Proofs.YtkfiahemgdppfaaGreatDoor.Qm (qOut)
open Go.Proofs.YtkfiahemgdppfaaGreatDoor.Rc (rcOK rcBd rcMs rcCode)
open Go.Proofs.YtkfiahemgdppfaaGreatDoor.Rl (rdC rdL)
open Go.Proofs.YtkfiahemgdppfaaGreatDoor.Lb (listTo lenTo)
open Go.Proofs.YtkfiahemgdppfaaGreatDoor.Ty (tnth)
open Go.Proofs.YtkfiahemgdppfaaGreatDoor.Rg (lt_at mem_at)

theorem bd_small {n : Int} {s : ByteArray} (h : bdP n s = true) : s.size ≤ 200 := by
  unfold bdP bdB at h
  rw [Bool.and_eq_true, Bool.and_eq_true] at h
  have hl := bys_length s
  have hs : s.size ≤ 20000 := of_decide_eq_true h.1
  have hc : rbC (bys s) = 0 := Bw.c_zero.2 ⟨by omega, h.2.1⟩
  obtain ⟨h1, h2⟩ := Wb.bat_again (bys_range s) hc
  rw [← hl, ← h2]
  unfold bOKx at h1
  generalize rbX (bys s) = X at h1
  obtain ⟨nl, c, st, k, l, nm, rs⟩ := X
  unfold Bt.batBs
  cases nl with
  | true => show (1 : Nat) ≤ 200; decide
  | false =>
    obtain ⟨p1, p2, p3, _, _⟩ : nm.size ≤ 12 ∧ rs.length ≤ 7 ∧ (∀ x ∈ rs, x.m.size = 8) ∧ Rq.reqB c st k l nm = true ∧ Bo.rOK 0 rs = true := Bt.bOK_parts h1
    simp only [Bool.false_eq_true, if_false, List.length_append, Pu.nums_length, Bt.rsBs_len _ p3, Rp.reqBs_length]
    omega
theorem dig_sz {n : Int} {s : ByteArray} (h : bdP n s = true) : (dig s).size = 32 := by
  have := bd_small h
  unfold dig Sh.hashS
  have hl : (bys Bd.bBt ++ bys s).length = 5 + s.size := by rw [List.length_append, bys_length, bys_length]; rfl
  rw [if_neg (by omega), strOfNums_size]
  show (Sh.outTo _ 8).length = 32
  rw [Sh.outTo_length]
/-- A drawn certificate: its view, its place, its body, its votes. -/
structure Dn where
  vw : Int
  sq : Int
  bd : ByteArray
  ms : List Mg
def Dn.tx (d : Dn) : ByteArray := strOfNums (cOut d.bd d.ms)
def Dn.ct (d : Dn) : Ct := ⟨d.bd, d.ms⟩
structure OneD (n view : Int) (d : Dn) : Prop where
  vw : 0 ≤ d.vw ∧ d.vw < view
  sq : 1 ≤ d.sq ∧ d.sq ≤ 3
  bd : bdP n d.bd = true
  len : (d.ms.length : Int) = qOut n
  vs : Vs8 n d.vw d.sq (dig d.bd) 7 d.ms
theorem one_ok {n view : Int} {d : Dn} (hf : fCode n = 0) (hv : view ≤ 20) (h : OneD n view d) : okC n d.tx = true ∧ Wc.ct d.tx = d.ct ∧ (hd d.ct).sq = d.sq ∧ (hd d.ct).vw = d.vw ∧ d.tx.size ≤ 500 ∧ Cb.cfB d.ms = true := by
  have hsz := bd_small h.bd
  have hq := q_pos hf
  have hl := h.len
  obtain ⟨c1, c2⟩ := cert_ok hf ⟨h.vw.1, by have := h.vw.2; omega⟩ ⟨h.sq.1, by have := h.sq.2; omega⟩ (dig_sz h.bd) h.bd h.vs hl
  obtain ⟨b1, b2, b3, b4, b5⟩ := cert_back (bd := d.bd) (by omega) c2 (by omega)
  have hcf : Cb.cfB d.ms = true := by unfold Cb.cfB; rw [decide_eq_true (by omega), c2]; rfl
  have ho := (Cb.c_good d.bd d.ms hcf (by omega)).2
  have hbs : bys d.tx = cOut d.bd d.ms := Ho.bys_str _ (by rw [ho]; exact Lb.listTo_range _ _)
  have hct : Wc.ct d.tx = d.ct := by unfold Wc.ct Dn.ct; rw [hbs, b3, b4]
  obtain ⟨x, hx⟩ := Rg.get_at (xs := d.ms) (k := 0) (by omega)
  have hhd : hd d.ct = x := by
    show d.ms.getD 0 default = x
    rw [List.getD_eq_getElem?_getD, hx]; rfl
  obtain ⟨j, ej, _⟩ := h.vs.all x (mem_at hx)
  refine ⟨?_, hct, by rw [hhd, ej]; rfl, by rw [hhd, ej]; rfl, ?_, hcf⟩
  · unfold okC
    rw [hct, hbs]
    have : rcOK (cOut d.bd d.ms) = true := by
      unfold rcCode at b2
      cases e : rcOK (cOut d.bd d.ms) with
      | true => rfl
      | false =>
        rw [e] at b2
        by_cases h0 : rdC (cOut d.bd d.ms) = 0
        · rw [if_pos h0] at b2; cases b2
        · rw [if_neg h0] at b2; exact absurd b2 h0
    rw [this]; exact c1
  · unfold Dn.tx
    rw [strOfNums_size, ho, Lb.listTo_length, lenTo_eq _ _ (Nat.le_refl _), List.take_length]
    have hlen : (cTs d.bd d.ms).length = d.ms.length + 1 := by unfold cTs; rw [List.length_cons, List.length_map]
    rw [hlen]
    unfold cTs
    rw [List.map_cons, List.sum_cons, lens_small c2]
    omega
/-- Drawn certificates of rising places below j. -/
structure Dl (n view : Int) (j : Int) (ds : List Dn) : Prop where
  all : ∀ d ∈ ds, OneD n view d ∧ d.sq < j
  rise : ∀ (i : Nat) (x y : Dn), ds[i]? = some x → ds[i + 1]? = some y → x.sq < y.sq
  len : (ds.length : Int) < j
theorem Dl.nil (n view : Int) : Dl n view 1 [] := ⟨fun d h => by simp at h, fun i x y h => by simp at h, by show ((0 : Nat) : Int) < 1; omega⟩
theorem Dl.skip {n view j : Int} {ds : List Dn} (h : Dl n view j ds) : Dl n view (j + 1) ds := ⟨fun d hd => ⟨(h.all d hd).1, by have := (h.all d hd).2; omega⟩, h.rise, by have := h.len; omega⟩
theorem Dl.snoc {n view j : Int} {ds : List Dn} {d : Dn} (h : Dl n view j ds) (hd : OneD n view d) (hj : d.sq = j) : Dl n view (j + 1) (ds ++ [d]) := by
  refine ⟨fun y hy => ?_, fun i x y hx hy => ?_, by rw [List.length_append]; have := h.len; simp; omega⟩
  · rcases List.mem_append.1 hy with hy | hy
    · exact ⟨(h.all y hy).1, by have := (h.all y hy).2; omega⟩
    · simp at hy; subst hy; exact ⟨hd, by omega⟩
  · by_cases e : i + 1 < ds.length
    · rw [List.getElem?_append_left (by omega)] at hx
      rw [List.getElem?_append_left e] at hy
      exact h.rise i x y hx hy
    · have hl : i + 1 < (ds ++ [d]).length := lt_at hy
      rw [List.length_append] at hl
      simp at hl
      have ej : i + 1 = ds.length := by omega
      rw [List.getElem?_append_left (by omega)] at hx
      rw [List.getElem?_append_right (by omega), ej, Nat.sub_self] at hy
      simp at hy
      have := (h.all x (mem_at hx)).2
      rw [← hy]; omega
noncomputable def dTs (ds : List Dn) : List ByteArray := ds.map Dn.tx
theorem dTs_at {ds : List Dn} {i : Nat} {d : Dn} (h : ds[i]? = some d) : tnth (dTs ds) i = d.tx := by
  unfold tnth dTs
  rw [List.getD_eq_getElem?_getD, List.getElem?_map, h]; rfl
theorem sum_le {ds : List Dn} (h : ∀ d ∈ ds, d.tx.size ≤ 500) : ((dTs ds).map ByteArray.size).sum ≤ 500 * ds.length := by
  induction ds with
  | nil => exact Nat.le_refl _
  | cons d ds ih =>
    have h1 := h d (by simp)
    have h2 := ih (fun x hx => h x (List.mem_cons_of_mem _ hx))
    unfold dTs at *
    simp only [List.map_cons, List.sum_cons, List.length_cons]
    omega
/-- The body of a drawn view change; the message. -/
noncomputable def dBd (ds : List Dn) : ByteArray := strOfNums (listTo (dTs ds) (dTs ds).length)
noncomputable def dMg (view : Int) (i : Nat) (ds : List Dn) : Mg := ⟨4, view, 0, i, ⟨#[]⟩, dBd ds, mmk 4 view 0 i ⟨#[]⟩ (dBd ds)⟩
theorem change_sz {n view j : Int} {ds : List Dn} (hf : fCode n = 0) (hv : view ≤ 20) (hj : j ≤ 4) (h : Dl n view j ds) : (dTs ds).length = ds.length ∧ ds.length ≤ 3 ∧ (∀ t ∈ dTs ds, t.size ≤ 500) ∧ (∀ k, k ≤ (dTs ds).length → lenTo (dTs ds) k ≤ 1507) ∧ (dBd ds).size ≤ 1507 := by
  have hl : (dTs ds).length = ds.length := by unfold dTs; rw [List.length_map]
  have h3 : ds.length ≤ 3 := by have := h.len; omega
  have hs : ∀ d ∈ ds, d.tx.size ≤ 500 := fun d hd => (one_ok hf hv (h.all d hd).1).2.2.2.2.1
  have ht : ∀ t ∈ dTs ds, t.size ≤ 500 := fun t ht => by
    unfold dTs at ht
    obtain ⟨d, hd, rfl⟩ := List.mem_map.1 ht
    exact hs d hd
  have hk : ∀ k, k ≤ (dTs ds).length → lenTo (dTs ds) k ≤ 1507 := fun k hk => by
    rw [lenTo_eq _ _ hk]
    have e : (dTs ds).take k = dTs (ds.take k) := by unfold dTs; rw [List.map_take]
    rw [e]
    have := sum_le (ds := ds.take k) (fun d hd => hs d (List.mem_of_mem_take hd))
    have : (ds.take k).length ≤ 3 := by rw [List.length_take]; omega
    omega
  refine ⟨hl, h3, ht, hk, ?_⟩
  unfold dBd
  rw [strOfNums_size, Lb.listTo_length]
  exact hk _ (Nat.le_refl _)
theorem change_ok {n view j : Int} {i : Nat} {ds : List Dn} (hf : fCode n = 0) (hv : 1 ≤ view ∧ view ≤ 20) (hj : j ≤ 4) (hi : i < 7) (hn : (i : Int) < n) (h : Dl n view j ds) :
    Wc.cfB n view (dMg view i ds) = true ∧ crts (dMg view i ds) = ds.map Dn.ct := by
  obtain ⟨hl, h3, ht, hk, hb⟩ := change_sz hf hv.2 hj h
  obtain ⟨r1, r2⟩ := Rl.read_back (dTs ds) (by omega) (fun t h => by have := ht t h; omega) (by rw [Lb.listTo_length]; have := hk _ (Nat.le_refl _); omega)
  have hbs : bys (dBd ds) = listTo (dTs ds) (dTs ds).length := Ho.bys_str _ (Lb.listTo_range _ _)
  have hm : msgB 4 view 0 i ⟨#[]⟩ (dBd ds) (mmk 4 view 0 i ⟨#[]⟩ (dBd ds)) = true := by
    have hz : (mmk 4 view 0 i ⟨#[]⟩ (dBd ds)).size = 8 := mmk_size _ _ _ _ _ _ (by show (0 : Nat) ≤ _; omega) (by omega)
    rw [msg_eq, kind4]
    unfold inB
    simp only [Bool.and_eq_true, decide_eq_true_eq, beq_iff_eq]
    refine ⟨by omega, by omega, by omega, by omega, trivial, ?_⟩
    rw [empty_size]; rfl
  have hsg : sg n (dMg view i ds) = true := by
    unfold sg gB lB dMg
    rw [decide_eq_true hf]
    simp only [hm, decide_eq_true hn, Int.toNat_natCast, Bool.true_and, beq_self_eq_true]
  have hat : ∀ k, k < ds.length → ∃ d, ds[k]? = some d ∧ tnth (dTs ds) k = d.tx ∧ OneD n view d := fun k hk => by
    obtain ⟨d, hd⟩ := Rg.get_at hk
    exact ⟨d, hd, dTs_at hd, (h.all d (mem_at hd)).1⟩
  have hg : GoodC n view (dTs ds) (dTs ds).length := fun k hk => by
    rw [hl] at hk
    obtain ⟨d, hd, e, ho⟩ := hat k hk
    obtain ⟨o1, o2, o3, o4, _⟩ := one_ok hf hv.2 ho
    unfold OneC
    rw [e, o2]
    refine ⟨o1, ?_, by rw [o4]; exact ho.vw.2⟩
    rw [o3]
    cases k with
    | zero => show (0 : Int) < _; have := ho.sq.1; omega
    | succ k =>
      obtain ⟨d', hd', e', ho'⟩ := hat k (by omega)
      show (Wc.hd (Wc.ct (tnth (dTs ds) k))).sq < _
      obtain ⟨_, p2, p3, _⟩ := one_ok hf hv.2 ho'
      rw [e', p2, p3]
      exact h.rise k d' d hd' hd
  constructor
  · refine bOf_true ⟨hsg, rfl, rfl, by omega, ?_, ?_⟩
    · show rdC (bys (dBd ds)) = 0; rw [hbs]; exact r1
    · show rsB n view (rdL (bys (dBd ds))) = true; rw [hbs, r2]; exact rs_yes hg
  · show (rdL (bys (dBd ds))).map Wc.ct = _
    rw [hbs, r2]
    unfold dTs
    rw [List.map_map]
    refine List.map_congr_left fun d hd => ?_
    exact (one_ok hf hv.2 (h.all d hd).1).2.1
end Go.Proofs.YtkfiahemgdppfaaGreatDoor.Dc

/- The plan of a quorum: what all of them bring. -/
namespace Go.Proofs.YtkfiahemgdppfaaGreatDoor.Pl
open Go.RowKit Go.Proofs.YtkfiahemgdppfaaGreatDoor.Sl Go.Proofs.YtkfiahemgdppfaaGreatDoor.By Go.Proofs.YtkfiahemgdppfaaGreatDoor.Ap Go.Proofs.YtkfiahemgdppfaaGreatDoor.Gm Go.Proofs.YtkfiahemgdppfaaGreatDoor.Sh Go.Proofs.YtkfiahemgdppfaaGreatDoor.Vt Go.Proofs.YtkfiahemgdppfaaGreatDoor.Tm Go.Proofs.YtkfiahemgdppfaaGreatDoor.Wc
open Go.Proofs.YtkfiahemgdppfaaGreatDoor.Rc (OwnM OwnM.row OwnM.kept OwnM.lt OwnM.below OwnM.mono)
open Go.Proofs.YtkfiahemgdppfaaGreatDoor.Qm (qOut)
open Go.Proofs.YtkfiahemgdppfaaGreatDoor.Rg (RowG RowG.slice RowG.at lt_at mem_at blk_cell blk_set blk_far bel_new)

/-- They are votes of a quorum, and each brings what is right. -/
noncomputable def caB (n view : Int) (ms : List Mg) : Bool := qvB n ms && ms.all (cfB n view)
noncomputable def caL (ms : List Mg) : List Ct := ms.flatMap crts
theorem all_step {n view : Int} {ms : List Mg} {k : Nat} {x : Mg} (h : ms[k]? = some x) : (ms.drop k).all (cfB n view) = (cfB n view x && (ms.drop (k + 1)).all (cfB n view)) := by
  obtain ⟨hk, rfl⟩ := List.getElem?_eq_some_iff.1 h
  rw [List.drop_eq_getElem_cons hk, List.all_cons]
theorem fm_step {ms : List Mg} {k : Nat} {x : Mg} (h : ms[k]? = some x) : caL (ms.take (k + 1)) = caL (ms.take k) ++ crts x := by
  unfold caL
  rw [List.take_add_one, h, List.flatMap_append]; simp
theorem crts_len {n view : Int} {x : Mg} (h : cfB n view x = true) : (crts x).length ≤ 8 := by
  unfold crts
  rw [List.length_map]
  refine Nat.le_of_not_lt fun h8 => ?_
  have h9 := (bOf_iff.1 h).2.2.2.2.2
  rw [rs_eight h8] at h9
  cases h9
set_option maxRecDepth 100000 in
set_option maxHeartbeats 1600000 in
theorem certsOfAll_any (n view : Int) (v : Value) (ms : List Mg) (w : World) (h : Row w v ms) (hl : ms.length ≤ 1048576) (hb : ∀ x ∈ ms, x.bd.size ≤ 1048576) (hK : KTab w) (hp : 0 < w.heap.size) :
    Calls Tryz.prog 20 #[.int .i64 n, .int .i64 view, v] w fun e w' => ∃ u, e = .returned (.tuple #[u, .bool (caB n view ms)]) ∧ (caB n view ms = true → ∃ ps, ps.map (·.1) = caL ms ∧ RdC w' w.heap.size u ps) ∧ Below w.heap.size w w' := by
  obtain ⟨i0, hi0, hz0, hz1, hz2⟩ := info_parts info_c
  have GK : Hid (∀ W, Below w.heap.size w W → KTab W ∧ 0 < W.heap.size) := fun W hW => ⟨hK.below hW hp, Nat.lt_of_lt_of_le hp hW.size⟩
  have HQV := quorumVotes_any n v ms w h hl hK hp
  have HE : Hid (caB n view ms = (qvB n ms && ms.all (cfB n view))) := rfl
  have HBD : Hid (∀ x ∈ ms, x.bd.size ≤ 1048576) := hb
  obtain ⟨a, cap, rfl⟩ := RowG.slice h
  clear h hK hp hb
  cases hq : qvB n ms with
  | false =>
    rw [hq] at HQV HE
    go_enter Tryz.func20, Tryz.ntmps20
    go_wp2_with fail
    refine HQV.mono ?_
    rintro e w1 ⟨u, rfl, -, b1⟩
    have B1 : Hid (Below w.heap.size w w1) := b1
    have HF : Hid (caB n view ms = false) := HE.out
    clear b1
    go_wp2_with fail
    go_ret2
    exact ⟨_, ret_vb HF.out.symm, fun hh => absurd (HF.out.symm.trans hh) (by decide), B1.out⟩
  | true =>
    obtain ⟨hf, hlen, _, _⟩ := qv_iff.1 hq
    have h5 : ms.length ≤ 5 := by have := (q_pos hf).2; omega
    rw [hq, Bool.true_and] at HE
    rw [hq] at HQV
    clear hq hf hlen
    go_enter Tryz.func20, Tryz.ntmps20
    go_wp2_with fail
    refine HQV.mono ?_
    rintro e w1 ⟨u, rfl, o1, b1⟩
    have B1 : Hid (Below w.heap.size w w1) := b1
    have O1 : Hid (OwnV w1 w.heap.size u (vts n ms)) := o1 trivial
    obtain ⟨ua, ucap, rfl⟩ := OwnV.slice (o1 trivial)
    have HVL : (vts n ms).length = ms.length := by unfold vts; rw [List.length_map]
    have HVA : Hid (∀ k x, ms[k]? = some x → (vts n ms)[k]? = some (votV n x)) := fun k x hx => by unfold vts; rw [List.getElem?_map, hx]; rfl
    rw [HVL] at O1 ⊢
    clear b1 o1 HVL HQV
    go_wp2_with fail
    go_loopw [10, 25] (fun b i wr => ∃ (k : Nat) (ps : List (Ct × Value)), k ≤ ms.length ∧ i = .int .i64 k ∧ Hid (ms.all (cfB n view) = (ms.drop k).all (cfB n view) ∧ ps.map (·.1) = caL (ms.take k) ∧ ps.length ≤ 8 * k ∧ RdC wr w1.heap.size b ps ∧ Below w1.heap.size w1 wr)) (fun _ i _ => ms.length - (intOf i).toNat)
    case atStart => exact ⟨0, [], by omega, rfl, ⟨by rw [List.drop_zero], rfl, Nat.le_refl _, RdC.nil _ _, Below.refl _ _⟩⟩
    case round =>
      obtain ⟨k, ps, hk, rfl, HZ⟩ := hrel
      obtain ⟨v0, rfl⟩ : ∃ v0, v0 = u10 := ⟨_, rfl⟩
      by_cases hlt : k < ms.length
      · obtain ⟨x, hx⟩ := Rg.get_at hlt
        obtain ⟨g, rfl, hg, c0⟩ := OwnV.at (O1.out.below HZ.out.2.2.2.2) (HVA.out k x hx)
        have BR : Hid (Below w.heap.size w wr) := B1.out.trans (HZ.out.2.2.2.2.mono B1.out.size)
        have HCO : Hid (Calls Tryz.prog 27 #[.int .i64 n, .int .i64 view, votV n x] wr fun e w' => ∃ u, e = .returned (.tuple #[u, .bool (cfB n view x)]) ∧ (cfB n view x = true → ∃ ps, ps.map (·.1) = crts x ∧ OwnC w' wr.heap.size u ps) ∧ Below wr.heap.size wr w') := certsOf_any n view x wr (HBD.out x (mem_at hx)) (GK.out _ BR.out).1 (GK.out _ BR.out).2
        have HST : Hid (ms.all (cfB n view) = (cfB n view x && (ms.drop (k + 1)).all (cfB n view))) := HZ.out.1.trans (all_step hx)
        have HFM : Hid (caL (ms.take (k + 1)) = caL (ms.take k) ++ crts x) := fm_step hx
        have HC8 : Hid (cfB n view x = true → (crts x).length ≤ 8) := crts_len
        generalize votV n x = vv at c0 HCO
        generalize crts x = cx at HCO HFM HC8
        obtain ⟨q, HQ⟩ : ∃ q, Hid (cfB n view x = q) := ⟨_, rfl⟩
        rw [HQ.out] at HCO HST HC8
        clear hx
        cases q with
        | false =>
          have HF : Hid (caB n view ms = false) := by show _ = _; rw [HE.out, HST.out]; rfl
          go_wp2_with fail
          refine HCO.out.mono ?_
          rintro e w2 ⟨u2, rfl, -, b2⟩
          have B2 : Hid (Below w.heap.size w w2) := BR.out.trans (b2.mono BR.out.size)
          clear b2
          go_wp2_with fail
          go_ret2
          exact ⟨_, ret_vb HF.out.symm, fun hh => absurd (HF.out.symm.trans hh) (by decide), B2.out⟩
        | true =>
          go_wp2_with fail
          refine HCO.out.mono ?_
          rintro e w2 ⟨u2, rfl, o2, b2⟩
          obtain ⟨qs, m2, o2⟩ := o2 trivial
          have B2 : Hid (Below w1.heap.size w1 w2) := HZ.out.2.2.2.2.trans (b2.mono HZ.out.2.2.2.2.size)
          have P2 : Hid (RdC w2 w1.heap.size v0 ps) := HZ.out.2.2.2.1.below b2
          have Q2 : Hid (RdC w2 w1.heap.size u2 qs) := (RdC.of o2).mono HZ.out.2.2.2.2.size
          have HQL : Hid (qs.length ≤ 8) := by have := congrArg List.length m2; rw [List.length_map] at this; have h8 := HC8.out trivial; show _ ≤ _; omega
          have HPL : Hid (ps.length + qs.length ≤ 1000000) := by have h1 := HZ.out.2.2.1; have h2 := HQL.out; show _ ≤ _; omega
          have HMM : Hid ((ps ++ qs).map (·.1) = caL (ms.take (k + 1)) ∧ (ps ++ qs).length ≤ 8 * (k + 1)) := ⟨by rw [List.map_append, HZ.out.2.1, HFM.out, m2], by rw [List.length_append]; have h1 := HZ.out.2.2.1; have h2 := HQL.out; omega⟩
          clear b2 o2 m2
          go_wp2_with (at_builtin; go_must (refine list_certs (by rfl) _ _ 33 (by rfl) i0 Tryz.underlying33 hi0 hz0 hz1 hz2 w1.heap.size w1 w2 _ _ ps qs (by rfl) (by rfl) P2.out Q2.out B2.out B2.out.size HPL.out ?_; intro v7 w7 o7 b7))
          exact ⟨⟨k + 1, ps ++ qs, by omega, by go_num, ⟨by rw [HST.out]; rfl, HMM.out.1, HMM.out.2, o7, b7⟩⟩, by simp [intOf]; omega⟩
      · obtain rfl : k = ms.length := by omega
        have HF : Hid (caB n view ms = true) := by show _ = _; rw [HE.out, HZ.out.1, List.drop_length]; rfl
        have HP : Hid (∃ ps, ps.map (·.1) = caL ms ∧ RdC wr w.heap.size v0 ps) := ⟨ps, by have := HZ.out.2.1; rw [List.take_length] at this; exact this, HZ.out.2.2.2.1.mono B1.out.size⟩
        go_wp2_with fail
        go_ret2
        exact ⟨_, ret_vb HF.out.symm, fun _ => HP.out, B1.out.trans (HZ.out.2.2.2.2.mono B1.out.size)⟩
/-- The first L places of a plan. -/
def ents (st : Nat → ByteArray × Int) (L : Nat) : List ByteArray := (List.range L).map (ent st)
theorem ents_len (st : Nat → ByteArray × Int) (L : Nat) : (ents st L).length = L := by unfold ents; rw [List.length_map, List.length_range]
theorem ents_at (st : Nat → ByteArray × Int) {L i : Nat} (h : i < L) : (ents st L)[i]? = some (ent st i) := by
  unfold ents; rw [List.getElem?_map, List.getElem?_range h]; rfl
theorem ents_succ {st : Nat → ByteArray × Int} {L : Nat} (h : (st L).2 = 0) : ents st (L + 1) = ents st L ++ [nulB] := by
  unfold ents
  rw [List.range_succ, List.map_append]
  congr 1
  show [ent st L] = _
  unfold ent
  rw [if_pos h]
theorem stp_hit {st : Nat → ByteArray × Int} {c : Ct} {j : Nat} (hj : (hd c).sq = (j : Int) + 1) (h : (st j).2 ≤ (hd c).vw) : stp st c j = (c.bd, (hd c).vw + 1) := by
  unfold stp; rw [if_pos ⟨by omega, h⟩]
theorem stp_miss {st : Nat → ByteArray × Int} {c : Ct} {i j : Nat} (hj : (hd c).sq = (j : Int) + 1) (h : j ≠ i) : stp st c i = st i := by
  unfold stp; rw [if_neg (by rintro ⟨e2, _⟩; omega)]
theorem ents_step {st : Nat → ByteArray × Int} {c : Ct} {j L : Nat} (hj : (hd c).sq = (j : Int) + 1) (hv : 0 ≤ (hd c).vw) (h : (st j).2 ≤ (hd c).vw) : ents (stp st c) L = (ents st L).set j c.bd := by
  apply List.ext_getElem?
  intro i
  by_cases hi : i < L
  · rw [ents_at _ hi, List.getElem?_set]
    by_cases e : j = i
    · subst e
      rw [if_pos rfl, if_pos (by rw [ents_len]; exact hi)]
      unfold ent
      rw [stp_hit hj h]
      show some (if (hd c).vw + 1 = 0 then nulB else c.bd) = _
      rw [if_neg (by omega)]
    · rw [if_neg e, ents_at _ hi]
      unfold ent
      rw [stp_miss hj e]
  · rw [List.getElem?_eq_none (by rw [ents_len]; omega), List.getElem?_eq_none (by rw [List.length_set, ents_len]; omega)]
theorem stp_same {st : Nat → ByteArray × Int} {c : Ct} {j : Nat} (hj : (hd c).sq = (j : Int) + 1) (h : ¬ (st j).2 ≤ (hd c).vw) : stp st c = st := by
  funext i
  unfold stp
  rw [if_neg]
  rintro ⟨e, h2⟩
  have : i = j := by omega
  subst this
  exact h h2
/-- The views that the program keeps beside them. -/
def abv (st : Nat → ByteArray × Int) : Array Value := #[.int .i64 (st 0).2, .int .i64 (st 1).2, .int .i64 (st 2).2, .int .i64 (st 3).2, .int .i64 (st 4).2, .int .i64 (st 5).2, .int .i64 (st 6).2, .int .i64 (st 7).2]
theorem abv_at (st : Nat → ByteArray × Int) {j : Nat} (h : j < 8) : (abv st)[j]? = some (.int .i64 (st j).2) := by
  have : j = 0 ∨ j = 1 ∨ j = 2 ∨ j = 3 ∨ j = 4 ∨ j = 5 ∨ j = 6 ∨ j = 7 := by omega
  rcases this with rfl | rfl | rfl | rfl | rfl | rfl | rfl | rfl <;> rfl
theorem abv_step {st : Nat → ByteArray × Int} {c : Ct} {j : Nat} (hj : (hd c).sq = (j : Int) + 1) (h8 : j < 8) (h : (st j).2 ≤ (hd c).vw) : abv (stp st c) = (abv st).setIfInBounds j (.int .i64 ((hd c).vw + 1)) := by
  apply Array.ext_getElem?
  intro i
  by_cases hi : i < 8
  · rw [abv_at _ hi, Array.getElem?_setIfInBounds]
    by_cases e : j = i
    · subst e
      rw [if_pos rfl, if_pos (by show j < 8; exact h8)]
      rw [stp_hit hj h]
    · rw [if_neg e, abv_at _ hi, stp_miss hj e]
  · rw [Array.getElem?_eq_none (by show 8 ≤ i; omega), Array.getElem?_eq_none (by rw [Array.size_setIfInBounds]; show 8 ≤ i; omega)]
end Go.Proofs.YtkfiahemgdppfaaGreatDoor.Pl

/- Plans: where each batch comes from. -/
namespace Go.Proofs.YtkfiahemgdppfaaGreatDoor.Dc
open Go.RowKit Go.Proofs.YtkfiahemgdppfaaGreatDoor.Wc Go.Proofs.YtkfiahemgdppfaaGreatDoor.Gm Go.Proofs.YtkfiahemgdppfaaGreatDoor.Sh
open Go.Proofs.YtkfiahemgdppfaaGreatDoor.Pl (stp st0 stOf lastOf ent nulB planL)

theorem st_snoc (cs : List Ct) (c : Ct) : stOf (cs ++ [c]) = stp (stOf cs) c := by unfold stOf; rw [List.foldl_append]; rfl
theorem last_snoc (cs : List Ct) (c : Ct) : lastOf (cs ++ [c]) = max (lastOf cs) (hd c).sq.toNat := by unfold lastOf; rw [List.foldl_append]; rfl
theorem stp_two (st : Nat → ByteArray × Int) (c : Ct) (i : Nat) : (stp st c i).2 = if (i : Int) + 1 = (hd c).sq then max (st i).2 ((hd c).vw + 1) else (st i).2 := by
  unfold stp
  by_cases h : (i : Int) + 1 = (hd c).sq
  · by_cases h2 : (st i).2 ≤ (hd c).vw
    · rw [if_pos ⟨h, h2⟩, if_pos h]; show (hd c).vw + 1 = _; omega
    · rw [if_neg (fun hh => h2 hh.2), if_pos h]; omega
  · rw [if_neg (fun hh => h hh.1), if_neg h]
/-- What the places hold comes of a certificate, or nothing was brought. -/
theorem st_from (i : Nat) (cs : List Ct) : stOf cs i = st0 i ∨ ∃ c ∈ cs, (i : Int) + 1 = (hd c).sq ∧ stOf cs i = (c.bd, (hd c).vw + 1) := by
  suffices H : ∀ (n : Nat) (cs : List Ct), cs.length = n → (stOf cs i = st0 i ∨ ∃ c ∈ cs, (i : Int) + 1 = (hd c).sq ∧ stOf cs i = (c.bd, (hd c).vw + 1)) from H _ cs rfl
  intro n
  induction n with
  | zero => intro cs h; rw [List.length_eq_zero_iff.1 h]; exact .inl rfl
  | succ n ih =>
    intro cs h
    have hne : cs ≠ [] := fun e => by rw [e] at h; simp at h
    obtain ⟨c0, e⟩ : ∃ c0, cs = cs.dropLast ++ [c0] := ⟨cs.getLast hne, (List.dropLast_concat_getLast hne).symm⟩
    have hl : cs.dropLast.length = n := by rw [List.length_dropLast]; omega
    have ih2 := ih cs.dropLast hl
    rw [e, st_snoc]
    by_cases hp : (i : Int) + 1 = (hd c0).sq ∧ (stOf cs.dropLast i).2 ≤ (hd c0).vw
    · exact .inr ⟨c0, by simp, hp.1, by unfold stp; rw [if_pos hp]⟩
    · have e2 : stp (stOf cs.dropLast) c0 i = stOf cs.dropLast i := by unfold stp; rw [if_neg hp]
      rcases ih2 with h1 | ⟨c, hc, h1, h2⟩
      · exact .inl (e2.trans h1)
      · exact .inr ⟨c, List.mem_append_left _ hc, h1, e2.trans h2⟩
/-- A certificate of place s, of view b - 1, with this body. -/
def fnd (s b : Int) (t : ByteArray) (c : Ct) : Bool := decide ((hd c).sq = s) && (decide ((hd c).vw + 1 = b) && decide (c.bd = t))
theorem plan_from {cs : List Ct} (hR : ∀ c ∈ cs, 0 ≤ (hd c).vw) (i : Nat) : ((stOf cs i).2 = 0 ∧ ent (stOf cs) i = nulB) ∨ cs.any (fnd ((i : Int) + 1) (stOf cs i).2 (ent (stOf cs) i)) = true := by
  rcases st_from i cs with h | ⟨c, hc, h1, h2⟩
  · left
    unfold ent
    rw [h]
    exact ⟨rfl, rfl⟩
  · right
    have hv := hR c hc
    have he : ent (stOf cs) i = c.bd := by unfold ent; rw [h2, if_neg (by show ¬ (hd c).vw + 1 = 0; omega)]
    rw [List.any_eq_true]
    refine ⟨c, hc, ?_⟩
    unfold fnd
    rw [he, h2, decide_eq_true h1.symm, decide_eq_true rfl, decide_eq_true rfl]
    rfl
theorem plan_at {cs : List Ct} {i : Nat} (h : i < lastOf cs) : (planL cs)[i]? = some (ent (stOf cs) i) := by
  unfold planL
  rw [List.getElem?_map, List.getElem?_range h]; rfl
theorem plan_len (cs : List Ct) : (planL cs).length = lastOf cs := by unfold planL; rw [List.length_map, List.length_range]
/-- The law's table of the highest views: none at 0, then those of the places. -/
def bst (st : Nat → ByteArray × Int) : Array Value := #[.int .i64 0, .int .i64 (st 0).2, .int .i64 (st 1).2, .int .i64 (st 2).2, .int .i64 (st 3).2, .int .i64 (st 4).2, .int .i64 (st 5).2, .int .i64 (st 6).2, .int .i64 (st 7).2]
theorem bst_at (st : Nat → ByteArray × Int) {s : Nat} (h : s < 8) : (bst st)[s + 1]? = some (.int .i64 (st s).2) := by
  match s, h with
  | 0, _ => rfl
  | 1, _ => rfl
  | 2, _ => rfl
  | 3, _ => rfl
  | 4, _ => rfl
  | 5, _ => rfl
  | 6, _ => rfl
  | 7, _ => rfl
theorem bst_step (st : Nat → ByteArray × Int) (c : Ct) {s : Nat} (h : s < 8) (hs : (hd c).sq = (s : Int) + 1) : (bst st).setIfInBounds (s + 1) (.int .i64 (max (st s).2 ((hd c).vw + 1))) = bst (stp st c) := by
  have e : ∀ i : Nat, (stp st c i).2 = if i = s then max (st s).2 ((hd c).vw + 1) else (st i).2 := fun i => by
    rw [stp_two, hs]
    by_cases hi : i = s
    · subst hi; rw [if_pos rfl, if_pos rfl]
    · rw [if_neg (by omega), if_neg hi]
  unfold bst
  rw [e 0, e 1, e 2, e 3, e 4, e 5, e 6, e 7]
  match s, h with
  | 0, _ => rfl
  | 1, _ => rfl
  | 2, _ => rfl
  | 3, _ => rfl
  | 4, _ => rfl
  | 5, _ => rfl
  | 6, _ => rfl
  | 7, _ => rfl
theorem bst_none : bst (stOf []) = #[.int .i64 0, .int .i64 0, .int .i64 0, .int .i64 0, .int .i64 0, .int .i64 0, .int .i64 0, .int .i64 0, .int .i64 0] := rfl
theorem last_small {cs : List Ct} (h : ∀ c ∈ cs, (hd c).sq ≤ 8) : lastOf cs ≤ 8 := by
  suffices H : ∀ (cs : List Ct) (m : Nat), (∀ c ∈ cs, (hd c).sq ≤ 8) → m ≤ 8 → cs.foldl (fun m c => max m (hd c).sq.toNat) m ≤ 8 from H cs 0 h (by omega)
  intro cs
  induction cs with
  | nil => intro m _ hm; exact hm
  | cons c cs ih => intro m h hm; exact ih _ (fun x hx => h x (List.mem_cons_of_mem _ hx)) (by have := h c (by simp); show max m (hd c).sq.toNat ≤ 8; omega)
/-- The certificates of the first k messages, and one message more. -/
theorem caL_take {L : List Mg} {k : Nat} {x : Mg} (h : L[k]? = some x) : Pl.caL (L.take (k + 1)) = Pl.caL (L.take k) ++ Wc.crts x := by
  unfold Pl.caL
  rw [List.take_add_one, h, List.flatMap_append]
  simp
end Go.Proofs.YtkfiahemgdppfaaGreatDoor.Dc

/- The plan of a quorum: the program makes it. -/
namespace Go.Proofs.YtkfiahemgdppfaaGreatDoor.Pl
open Go.RowKit Go.Proofs.YtkfiahemgdppfaaGreatDoor.Sl Go.Proofs.YtkfiahemgdppfaaGreatDoor.By Go.Proofs.YtkfiahemgdppfaaGreatDoor.Ap Go.Proofs.YtkfiahemgdppfaaGreatDoor.Gm Go.Proofs.YtkfiahemgdppfaaGreatDoor.Sh Go.Proofs.YtkfiahemgdppfaaGreatDoor.Vt Go.Proofs.YtkfiahemgdppfaaGreatDoor.Tm Go.Proofs.YtkfiahemgdppfaaGreatDoor.Wc
open Go.Proofs.YtkfiahemgdppfaaGreatDoor.Rc (OwnM OwnM.row OwnM.kept OwnM.lt OwnM.below OwnM.mono Kq)
open Go.Proofs.YtkfiahemgdppfaaGreatDoor.Tl (OwnS)
open Go.Proofs.YtkfiahemgdppfaaGreatDoor.Bd (dOut)
open Go.Proofs.YtkfiahemgdppfaaGreatDoor.Rg (RowG RowG.slice RowG.at lt_at mem_at blk_cell blk_set blk_far bel_new)

theorem ownS_lt {w : World} {B : Nat} {v : Value} {ts : List ByteArray} (h : OwnS w B v ts) : ∀ g, v.ownBlock = some g → B ≤ g ∧ g < w.heap.size := World.ownsRow.lt h
theorem ownS_kept {w w' : World} {B : Nat} {v : Value} {ts : List ByteArray} (h : OwnS w B v ts) (hk : ∀ g, v.ownBlock = some g → w'.heap[g]? = w.heap[g]?) : OwnS w' B v ts := row_kept h hk
theorem ownS_below {w w' : World} {B : Nat} {v : Value} {ts : List ByteArray} (h : OwnS w B v ts) (hb : Below w.heap.size w w') : OwnS w' B v ts := ownS_kept h fun g hg => hb.block g (ownS_lt h g hg).2
theorem ownS_mono {w : World} {B B' : Nat} {v : Value} {ts : List ByteArray} (h : OwnS w B v ts) (hb : B' ≤ B) : OwnS w B' v ts := row_mono h hb
theorem ownS_slice {w : World} {B : Nat} {v : Value} {ts : List ByteArray} (h : OwnS w B v ts) : ∃ a cap, v = .slice a ts.length cap := by
  obtain ⟨hl, h⟩ := h
  rcases h with ⟨rfl, h0⟩ | ⟨g, cap, cur, rfl, h1, hg, h2⟩
  · exact ⟨none, 0, by rw [h0]⟩
  · exact ⟨_, cap, rfl⟩
theorem ownS_at {w : World} {B : Nat} {a : Option Addr} {l cap : Nat} {ts : List ByteArray} {i : Nat} {t : ByteArray} (h : OwnS w B (.slice a l cap) ts) (hi : ts[i]? = some t) : ∃ g, a = some ⟨g, 0, none⟩ ∧ B ≤ g ∧ g < w.heap.size ∧ w.cell? ⟨g, i, none⟩ = some (.string t) ∧ w.frozen? ⟨g, i, none⟩ = false := by
  have hil := lt_at hi
  obtain ⟨hl, hh⟩ := h
  rcases hh with ⟨_, h0⟩ | ⟨g, cap', cur, e, hB, hg, hc, _, hs, htk⟩
  · omega
  · cases e
    refine ⟨g, rfl, hB, (Array.getElem?_eq_some_iff.1 hg).1, ?_⟩
    refine blk_cell hg i ?_
    rw [← Array.getElem?_toList]
    have h1 : (ts.map Value.string)[i]? = some (.string t) := by rw [List.getElem?_map, hi]; rfl
    rw [← htk, List.getElem?_take] at h1
    split at h1
    · exact h1
    · cases h1
theorem ownS_set {w : World} {B g l cap : Nat} {ts : List ByteArray} {j : Nat} (h : OwnS w B (.slice (some ⟨g, 0, none⟩) l cap) ts) (z : ByteArray) : OwnS (w.setCell ⟨g, j, none⟩ (.string z)) B (.slice (some ⟨g, 0, none⟩) l cap) (ts.set j z) := by
  obtain ⟨_, hh⟩ := h
  refine ⟨by simp, ?_⟩
  rcases hh with ⟨e, _⟩ | ⟨g', cap', cur, e, hB, hg, hc, hc2, hs, htk⟩
  · cases e
  · cases e
    refine .inr ⟨g, cap, cur.setIfInBounds j (.string z), by rw [List.length_set], hB, blk_set hg j _, by rw [List.length_set]; exact hc, hc2, by rw [Array.size_setIfInBounds]; exact hs, ?_⟩
    rw [List.length_set, Array.toList_setIfInBounds, List.take_set, htk, List.map_set]
/-- Rows of texts lie in no block of another kind. -/
theorem ownS_ne {w : World} {B x : Nat} {v : Value} {ts : List ByteArray} {cs : Array Value} {t : TypeId} (ht : t ≠ 9) (h : OwnS w B v ts) (hx : w.heap[x]? = some (.cells cs t (0, 0))) : some x ≠ v.ownBlock := by
  intro e
  obtain ⟨_, h | ⟨g', cap', cur, he, _, hgg, _⟩⟩ := h
  · rw [h.1] at e; simp [Value.ownBlock] at e
  · rw [he] at e
    simp [Value.ownBlock] at e
    subst e
    rw [hx] at hgg
    simp at hgg
    exact ht hgg.2
/-- One text more; nothing else is written. -/
theorem list_txq {P : Program} {ops : Array Oper} {rest : List Oper} {o : Oper} {a : Act} {Q : Exit → Act → World → Prop} (hgd : o.guard = none) (s x : Operand) (t : TypeId)
    (ho : o.op = .call { callee := .builtin .append, args := #[s, x], argTypes := #[t, t] }) (i : TypeInfo) (ht : P.underlying t = some (.slice 9)) (hi : P.info? 9 = some i) (hz : i.zero = some (.string ⟨#[]⟩))
    (hsize : i.size = 1) (hby : i.bytes = 16) (B : Nat) (W : World) (v : Value) (ts : List ByteArray) (z : ByteArray) (hs : a.eval s = v) (hown : OwnS W B v ts) (hB : B ≤ W.heap.size)
    (hx : a.eval x = .slice (some ⟨W.heap.size, 0, none⟩) 1 1) (hlen : ts.length ≤ 1000000)
    (h : ∀ v' w', OwnS w' B v' (ts ++ [z]) → Below B W w' → Kq W w' v v' → wpList P ops Q rest (a.put o.dst v') w') : wpList P ops Q (o :: rest) a (W.alloc (.cells #[.string z] 9)) := by
  have hown' : OwnS (W.alloc (.cells #[.string z] 9)) B v ts := ownS_below hown (bel_new _ _)
  refine wpList_append_own_at (P := P) _ hgd s x t ho B 9 i (.string ⟨#[]⟩) 1 16 ht hi hz hsize hby rfl (by decide) v ts.length _ hs hown' ⟨W.heap.size, 0, none⟩ 1 1 [.string z] hx (by simp) (cell_one_new _ _ _) ?_ (by unfold maxLen; omega) (by omega) (by simp; omega) ?_
  · intro c hc
    simp at hc
    subst hc
    rfl
  · intro v' w' h1 h2 h3 h4
    refine h v' w' (by unfold OwnS; simpa using h1) ((((Below.refl B W).alloc hB _)).grown h2 (by simp; omega) (fun k hk => (ownS_lt hown' k hk).1)) (fun k hk hn => ⟨(h2.block k (by simp; omega) hn).trans (Below.heap_alloc W _ k hk), fun e => ?_⟩)
    rcases h4 with h4 | h4
    · exact hn (e.trans h4)
    · rw [h4] at e
      simp at e
      omega
/-- While the program makes a plan. -/
structure Pst (w wr : World) (b : Value) (st : Nat → ByteArray × Int) (L : Nat) : Prop where
  ha : wr.heap[w.heap.size]? = some (.cells (abv st) 97 (0, 0))
  own : OwnS wr (w.heap.size + 1) b (ents st L)
  bel : Below w.heap.size w wr
theorem Pst.below {w wr w' : World} {b : Value} {st : Nat → ByteArray × Int} {L : Nat} (h : Pst w wr b st L) (hb : Below wr.heap.size wr w') : Pst w w' b st L :=
  ⟨(hb.block _ (Array.getElem?_eq_some_iff.1 h.ha).1).trans h.ha, ownS_below h.own hb, h.bel.trans (hb.mono h.bel.size)⟩
structure Pin (w wr : World) (b : Value) (st : Nat → ByteArray × Int) (L xb yb : Nat) (bd : ByteArray) (vp : Value) (vw sq : Int) (dd : ByteArray) : Prop where
  ps : Pst w wr b st L
  hx : wr.heap[xb]? = some (.cells #[.string bd, vp] 37 (0, 0))
  hy : wr.heap[yb]? = some (.cells #[.int .i64 vw, .int .i64 sq, .string dd] 99 (0, 0))
theorem Pin.below {w wr w' : World} {b : Value} {st : Nat → ByteArray × Int} {L xb yb : Nat} {bd : ByteArray} {vp : Value} {vw sq : Int} {dd : ByteArray} (h : Pin w wr b st L xb yb bd vp vw sq dd) (hb : Below wr.heap.size wr w') : Pin w w' b st L xb yb bd vp vw sq dd :=
  ⟨h.ps.below hb, (hb.block _ (Array.getElem?_eq_some_iff.1 h.hx).1).trans h.hx, (hb.block _ (Array.getElem?_eq_some_iff.1 h.hy).1).trans h.hy⟩
theorem Pin.app {w wr w' : World} {b b' : Value} {st : Nat → ByteArray × Int} {L xb yb : Nat} {bd : ByteArray} {vp : Value} {vw sq : Int} {dd : ByteArray} (h : Pin w wr b st L xb yb bd vp vw sq dd) (h0 : (st L).2 = 0) (ho : OwnS w' (w.heap.size + 1) b' (ents st L ++ [nulB])) (hb : Below (w.heap.size + 1) wr w') (hk : Kq wr w' b b') : Pin w w' b' st (L + 1) xb yb bd vp vw sq dd := by
  have k1 : ∀ (x : Nat) (cs : Array Value) (t : TypeId), t ≠ 9 → wr.heap[x]? = some (.cells cs t (0, 0)) → w'.heap[x]? = some (.cells cs t (0, 0)) := fun x cs t ht hx => (hk x (Array.getElem?_eq_some_iff.1 hx).1 (ownS_ne ht h.ps.own hx)).1.trans hx
  exact ⟨⟨k1 _ _ _ (by decide) h.ps.ha, by rw [ents_succ h0]; exact ho, h.ps.bel.trans (hb.mono (Nat.le_succ _))⟩, k1 _ _ _ (by decide) h.hx, k1 _ _ _ (by decide) h.hy⟩
def lenOf : Value → Nat
  | .slice _ n _ => n
  | _ => 0
theorem cert_at {cs : List Ct} {k : Nat} {c : Ct} (h : cs[k]? = some c) : cs.take (k + 1) = cs.take k ++ [c] := by rw [List.take_add_one, h]; rfl
theorem big_last {st : Nat → ByteArray × Int} {L M : Nat} (h : ∀ i, M ≤ i → st i = (⟨#[]⟩, 0)) (hL : M ≤ L) : (st L).2 = 0 := by rw [h L hL]
set_option maxRecDepth 100000 in
set_option maxHeartbeats 3200000 in
theorem planFrom_any (v : Value) (ps : List (Ct × Value)) (B : Nat) (w : World) (h : RdC w B v ps) (hr : ∀ p ∈ ps, Right p.1) (hl : ps.length ≤ 1000) (hK : KTab w) (hp : 0 < w.heap.size) :
    Calls Tryz.prog 21 #[v] w fun e w' => ∃ u, e = .returned u ∧ OwnS w' w.heap.size u (planL (ps.map (·.1))) ∧ Below w.heap.size w w' := by
  obtain ⟨i0, hi0, hz0, hz1, hz2⟩ := info_parts Ty.info9
  have GK : Hid (∀ W, Below w.heap.size w W → KTab W ∧ 0 < W.heap.size) := fun W hW => ⟨hK.below hW hp, Nat.lt_of_lt_of_le hp hW.size⟩
  have HR : Hid (RdC w B v ps) := h
  obtain ⟨a, cap, rfl⟩ := h.slice
  obtain ⟨cs, HCS⟩ : ∃ cs, Hid (ps.map (·.1) = cs) := ⟨_, rfl⟩
  have HRT : Hid (∀ c ∈ cs, Right c) := fun c hc => by rw [← HCS.out] at hc; obtain ⟨p, hp, rfl⟩ := List.mem_map.1 hc; exact hr p hp
  have HAT : Hid (∀ (k : Nat) (p : Ct × Value), ps[k]? = some p → cs[k]? = some p.1) := fun k p hp => by rw [← HCS.out, List.getElem?_map, hp]; rfl
  have HCL : Hid (cs.length = ps.length) := by show _ = _; rw [← HCS.out, List.length_map]
  rw [HCS.out]
  have HP0 : Hid (Pst w (w.alloc (.cells #[.int .i64 0, .int .i64 0, .int .i64 0, .int .i64 0, .int .i64 0, .int .i64 0, .int .i64 0, .int .i64 0] 97)) (.slice none 0 0) (stOf (cs.take 0)) (lastOf (cs.take 0))) := ⟨heap_alloc_new w _, World.ownsRow_nil _ _ _ _, bel_new _ _⟩
  clear h hr hK hp HCS
  go_enter Tryz.func21, Tryz.ntmps21
  go_wp2_with fail
  generalize w.alloc (.cells #[.int .i64 0, .int .i64 0, .int .i64 0, .int .i64 0, .int .i64 0, .int .i64 0, .int .i64 0, .int .i64 0] 97) = wa at HP0 ⊢
  go_loopw [3, 11] (fun b i wr => ∃ k : Nat, k ≤ ps.length ∧ i = .int .i64 k ∧ Hid (Pst w wr b (stOf (cs.take k)) (lastOf (cs.take k)))) (fun _ i _ => ps.length - (intOf i).toNat)
  case atStart => exact ⟨0, by omega, rfl, HP0.out⟩
  case round =>
    obtain ⟨k, hk, rfl, HZ⟩ := hrel
    obtain ⟨v0, rfl⟩ : ∃ v0, v0 = u3 := ⟨_, rfl⟩
    by_cases hlt : k < ps.length
    · obtain ⟨p, hpk⟩ := Rg.get_at hlt
      have hpc := HAT.out k p hpk
      have HRC := HRT.out p.1 (mem_at hpc)
      have HM := (HR.out.below HZ.out.bel).mem p (mem_at hpk)
      obtain ⟨g, rfl, _, _, c0, c1⟩ := (HR.out.below HZ.out.bel).at hpk
      obtain ⟨pa, pcap, hpv⟩ := own_slice HM
      obtain ⟨⟨bd, ms⟩, vp⟩ := p
      simp only at hpv
      subst hpv
      have HRC : Right ⟨bd, ms⟩ := HRC
      have HTK : Hid (cs.take (k + 1) = cs.take k ++ [⟨bd, ms⟩]) := cert_at hpc
      obtain ⟨hI, hL8, hLZ⟩ := inv_take HRT.out k (by have := HCL.out; omega)
      have HBL : Hid (∀ W, Below wr.heap.size wr W → Calls Tryz.prog 57 #[.agg #[.string bd, .slice pa ms.length pcap]] W fun e w' => e = .returned (.agg #[.int .i64 (hd ⟨bd, ms⟩).vw, .int .i64 (hd ⟨bd, ms⟩).sq, .string (dOut bd)]) ∧ Below W.heap.size W w') := fun W hW => by
        have g := GK.out W (HZ.out.bel.trans (hW.mono HZ.out.bel.size))
        exact ballotOf_any bd _ ms (hd ⟨bd, ms⟩) W (HM.below hW).row HRC.1 g.1 g.2
      have HV0 : Hid (0 ≤ (hd ⟨bd, ms⟩).vw) := HRC.2.2.1.1
      obtain ⟨j, hj⟩ : ∃ j : Nat, (hd ⟨bd, ms⟩).sq = (j : Int) + 1 := ⟨((hd ⟨bd, ms⟩).sq - 1).toNat, by have := HRC.2.1.1; omega⟩
      have hj8 : j < 8 := by have := HRC.2.1.2; omega
      have HJ : Hid ((hd ⟨bd, ms⟩).sq = (j : Int) + 1) := hj
      rw [hj] at HBL
      have HV20 : Hid ((hd ⟨bd, ms⟩).vw ≤ 20) := HRC.2.2.1.2
      generalize dOut bd = dd at HBL
      obtain ⟨vw, HVW⟩ : ∃ vw, Hid ((hd ⟨bd, ms⟩).vw = vw) := ⟨_, rfl⟩
      rw [HVW.out] at HBL HV0 HV20
      have HNX : Hid (stOf (cs.take (k + 1)) = stp (stOf (cs.take k)) ⟨bd, ms⟩ ∧ lastOf (cs.take (k + 1)) = max (lastOf (cs.take k)) (j + 1)) := by
        rw [HTK.out]
        refine ⟨stOf_snoc _ _, ?_⟩
        rw [lastOf_snoc, HJ.out]
        congr 1
      have HINV : Hid (Inv (stOf (cs.take k)) ∧ lastOf (cs.take k) ≤ 8 ∧ ∀ i, lastOf (cs.take k) ≤ i → stOf (cs.take k) i = (⟨#[]⟩, 0)) := ⟨hI, hL8, hLZ⟩
      obtain ⟨st, HST⟩ : ∃ st, Hid (stOf (cs.take k) = st) := ⟨_, rfl⟩
      obtain ⟨M, HMM⟩ : ∃ M, Hid (lastOf (cs.take k) = M) := ⟨_, rfl⟩
      rw [HST.out, HMM.out] at HZ HNX HINV
      clear hI hL8 hLZ HRC HM hpc hpk hj HTK HST HMM
      go_wp2_with fail
      refine (HBL.out _ (bel_new _ _)).mono ?_
      rintro e w2 ⟨rfl, b2⟩
      have X3 : Hid (Pin w (w2.alloc (.cells #[.int .i64 vw, .int .i64 ((j : Int) + 1), .string dd] 99)) v0 st M wr.heap.size w2.heap.size bd (.slice pa ms.length pcap) vw ((j : Int) + 1) dd) := by
        have hb2 : Below wr.heap.size wr w2 := (bel_new wr _).trans (b2.mono (bel_new wr _).size)
        have hbx := (b2.block wr.heap.size (by simp)).trans (heap_alloc_new wr _)
        exact ⟨HZ.out.below (hb2.alloc hb2.size _), (Below.heap_alloc w2 _ _ (Array.getElem?_eq_some_iff.1 hbx).1).trans hbx, heap_alloc_new w2 _⟩
      clear b2 HZ c0 c1
      go_upto_region 7 with fail
      obtain ⟨xb, HXB⟩ : ∃ xb, Hid (wr.heap.size = xb) := ⟨_, rfl⟩
      obtain ⟨yb, HYB⟩ : ∃ yb, Hid (w2.heap.size = yb) := ⟨_, rfl⟩
      rw [HXB.out, HYB.out] at X3
      rw [HXB.out, HYB.out]
      generalize w2.alloc (.cells #[.int .i64 vw, .int .i64 ((j : Int) + 1), .string dd] 99) = w3 at X3 ⊢
      clear HXB HYB HBL
      have hjn : (0 : Int) ≤ (j : Int) := by omega
      have hj8' : (j : Int) < 8 := by omega
      go_loopw [3] (fun b wr => ∃ (L : Nat) (ba : Option Addr) (bcap : Nat), b = .slice ba L bcap ∧ M ≤ L ∧ L ≤ max M (j + 1) ∧ Hid (Pin w wr b st L xb yb bd (.slice pa ms.length pcap) vw ((j : Int) + 1) dd)) (fun b _ => 9 - lenOf b)
      case atStart =>
        obtain ⟨ba, bcap, e⟩ := ownS_slice X3.out.ps.own
        rw [ents_len] at e
        exact ⟨M, ba, bcap, e, by omega, by omega, X3.out⟩
      case round =>
        obtain ⟨L, ba, bcap, rfl, hML, hLm, HP⟩ := hrel
        have y0 := (blk_cell HP.out.hy 0 (x := .int .i64 vw) rfl).1
        have y1 := (blk_cell HP.out.hy 1 (x := .int .i64 ((j : Int) + 1)) rfl).1
        have hM8 := HINV.out.2.1
        by_cases hLj : L < j + 1
        · have hlt1 : (L : Int) < (j : Int) + 1 := by omega
          have HN0 : Hid ((st L).2 = 0) := big_last HINV.out.2.2 hML
          have HSZ : Hid (w.heap.size + 1 ≤ wr.heap.size) := (Array.getElem?_eq_some_iff.1 HP.out.ps.ha).1
          have HEL : Hid ((ents st L).length ≤ 1000000) := by show _ ≤ _; rw [ents_len]; omega
          go_wp2_with (at_builtin; go_must (refine list_txq (by rfl) _ _ 28 (by rfl) i0 Tryz.underlying28 hi0 hz0 hz1 hz2 (w.heap.size + 1) wr _ (ents st L) nulB (by rfl) HP.out.ps.own HSZ.out (by rfl) HEL.out ?_; intro v7 w7 o7 b7 k7))
          have HP7 : Hid (Pin w w7 v7 st (L + 1) xb yb bd (.slice pa ms.length pcap) vw ((j : Int) + 1) dd) := HP.out.app HN0.out o7 b7 k7
          obtain ⟨va, vcap, hv7⟩ := ownS_slice HP7.out.ps.own
          rw [ents_len] at hv7
          subst hv7
          clear o7 b7 k7
          exact ⟨⟨L + 1, va, vcap, rfl, by omega, by omega, HP7.out⟩, by show 9 - (L + 1) < 9 - L; omega⟩
        · have hlt1 : ¬ (L : Int) < (j : Int) + 1 := by omega
          have HLL : Hid (L = max M (j + 1)) := by show _ = _; omega
          obtain ⟨X, hX, W, QI0, QO0⟩ := Qc.klass wr
          have QI : Hid (∀ w', Below wr.heap.size wr w' → ∃ x, w' = W x) := QI0
          have QO : Hid (∀ x, Below wr.heap.size wr (W x)) := QO0
          have QP : Hid (∀ x, Pin w (W x) (.slice ba L bcap) st L xb yb bd (.slice pa ms.length pcap) vw ((j : Int) + 1) dd) := fun x => HP.out.below (QO.out x)
          have z0 := fun x => (blk_cell (QP.out x).hy 0 (x := .int .i64 vw) rfl).1
          have z2 := fun x => (blk_cell (QP.out x).ps.ha j (abv_at st hj8)).1
          clear QI0 QO0
          go_upto_region 10 with fail
          by_cases hle : (st j).2 ≤ vw
          · have hle' : decide ((st j).2 ≤ vw) = true := decide_eq_true hle
            refine Qc.region_class (W := W) (by kernel_rfl) (by kernel_rfl) (QI.out _ Qc.from_drew) ?_
            repeat (go_big_quiet_step (fail))
            refine wpQuiet_nil ?_
            rintro _ ⟨xq, rfl⟩
            have HQ : Hid (Pin w (W xq) (.slice ba L bcap) st L xb yb bd (.slice pa ms.length pcap) vw ((j : Int) + 1) dd) := QP.out xq
            clear z0 z2 y0 y1 HP
            generalize W xq = wq at HQ ⊢
            obtain ⟨gp, rfl, hgp, _, d0, f0⟩ := ownS_at HQ.out.ps.own (ents_at st (show j < L by omega))
            obtain ⟨d1, f1⟩ := blk_cell HQ.out.ps.ha j (abv_at st hj8)
            have d2 := (blk_cell HQ.out.hx 0 (x := .string bd) rfl).1
            have d3 := (blk_cell HQ.out.hy 0 (x := .int .i64 vw) rfl).1
            have hjL : (j : Int) < (L : Int) := by omega
            have hv1 : -9223372036854775808 ≤ vw + 1 ∧ vw + 1 ≤ 9223372036854775807 := by have h1 := HV0.out; have h2 := HV20.out; omega
            have HF : Hid (Pst w ((wq.setCell ⟨gp, j, none⟩ (.string bd)).setCell ⟨w.heap.size, j, none⟩ (.int .i64 (vw + 1))) (.slice (some ⟨gp, 0, none⟩) L bcap) (stOf (cs.take (k + 1))) (lastOf (cs.take (k + 1)))) := by
              have hh : (st j).2 ≤ (hd ⟨bd, ms⟩).vw := by rw [HVW.out]; exact hle
              have e1 := ents_step (L := L) HJ.out (by rw [HVW.out]; exact HV0.out) hh
              have e2 := abv_step HJ.out hj8 hh
              rw [HNX.out.1, HNX.out.2, ← HLL.out]
              rw [HVW.out] at e2
              refine ⟨?_, ?_, ?_⟩
              · rw [e2]
                exact blk_set ((blk_far (by omega) _ _).trans HQ.out.ps.ha) j _
              · rw [e1]
                exact ownS_kept (ownS_set HQ.out.ps.own bd) fun g hg => blk_far (by simp [Value.ownBlock] at hg; omega) _ _
              · exact Below.setCell (Below.setCell HQ.out.ps.bel (p := ⟨gp, j, none⟩) (Nat.le_trans (Nat.le_succ _) hgp) _) (p := ⟨w.heap.size, j, none⟩) (Nat.le_refl _) _
            have hgy : gp ≠ yb := fun e => ownS_ne (by decide) HQ.out.ps.own HQ.out.hy (by rw [← e]; rfl)
            have hgx : gp ≠ xb := fun e => ownS_ne (by decide) HQ.out.ps.own HQ.out.hx (by rw [← e]; rfl)
            have hga : gp ≠ w.heap.size := by omega
            have e3 : (wq.setCell ⟨gp, j, none⟩ (.string bd)).cell? ⟨yb, 0, none⟩ = some (.int .i64 vw) := (World.cell?_of_block (a := ⟨yb, 0, none⟩) (blk_far (Ne.symm hgy) _ _)).trans d3
            have e1 : (wq.setCell ⟨gp, j, none⟩ (.string bd)).cell? ⟨w.heap.size, j, none⟩ = some (.int .i64 (st j).2) := (World.cell?_of_block (a := ⟨w.heap.size, j, none⟩) (blk_far (Ne.symm hga) _ _)).trans d1
            have g1 : (wq.setCell ⟨gp, j, none⟩ (.string bd)).frozen? ⟨w.heap.size, j, none⟩ = false := (blk_cell ((blk_far (Ne.symm hga) _ _).trans HQ.out.ps.ha) j (abv_at st hj8)).2
            have hjz : (0 : Int) ≤ (j : Int) + 1 := by omega
            clear HQ HP0 GK HR HRT HAT HCL HRC HINV HNX HLL X3 QI QO QP hle HJ HVW
            go_upto_region 11 with fail
            go_region_law (fail)
            all_goals try go_simp
            all_goals
              go_wp2_with fail
              exact ⟨⟨k + 1, by omega, by go_num, HF.out.below Qc.from_drew⟩, by simp [intOf]; omega⟩
          · have hle' : decide ((st j).2 ≤ vw) = false := decide_eq_false hle
            refine Qc.region_class (W := W) (by kernel_rfl) (by kernel_rfl) (QI.out _ Qc.from_drew) ?_
            repeat (go_big_quiet_step (fail))
            refine wpQuiet_nil ?_
            rintro _ ⟨xq, rfl⟩
            have HQ : Hid (Pst w (W xq) (.slice ba L bcap) (stOf (cs.take (k + 1))) (lastOf (cs.take (k + 1)))) := by
              have h1 := (QP.out xq).ps
              rw [HNX.out.1, HNX.out.2, ← HLL.out, stp_same HJ.out (by rw [HVW.out]; exact hle)]
              exact h1
            clear z0 z2 y0 y1 HP
            generalize W xq = wq at HQ ⊢
            go_wp2_with fail
            exact ⟨⟨k + 1, by omega, by go_num, HQ.out⟩, by simp [intOf]; omega⟩
    · obtain rfl : k = ps.length := by omega
      have HE : Hid (OwnS wr w.heap.size v0 (planL cs)) := by
        have h1 := HZ.out.own
        rw [← HCL.out, List.take_length] at h1
        exact ownS_mono h1 (Nat.le_succ _)
      go_wp2_with fail
      go_ret
      exact ⟨_, rfl, HE.out, HZ.out.bel⟩
end Go.Proofs.YtkfiahemgdppfaaGreatDoor.Pl
