/- Texts put together: Pl, Pm, Pn, Po. -/
import Derived.Test.YtddmdnljfnimbaaGreatDoorM25
import Derived.Deep.Upon
import Derived.Test.YtddmdnljfnimbaaGreatDoorM6
/- The plan of a quorum: plain facts; certificates in a row that is read. -/
namespace Go.Proofs.YtddmdnljfnimbaaGreatDoor.Pl
open Go.RowKit Go.Proofs.YtddmdnljfnimbaaGreatDoor.Sl Go.Proofs.YtddmdnljfnimbaaGreatDoor.By Go.Proofs.YtddmdnljfnimbaaGreatDoor.Ap Go.Proofs.YtddmdnljfnimbaaGreatDoor.Gm Go.Proofs.YtddmdnljfnimbaaGreatDoor.Sh Go.Proofs.YtddmdnljfnimbaaGreatDoor.Vt Go.Proofs.YtddmdnljfnimbaaGreatDoor.Tm Go.Proofs.YtddmdnljfnimbaaGreatDoor.Wc
open Go.Proofs.YtddmdnljfnimbaaGreatDoor.Rc (OwnM OwnM.row OwnM.kept OwnM.lt OwnM.below OwnM.mono)
open Go.Proofs.YtddmdnljfnimbaaGreatDoor.Qm (qOut)
open Go.Proofs.YtddmdnljfnimbaaGreatDoor.Bw (bdP bdB)
open Go.Proofs.YtddmdnljfnimbaaGreatDoor.Rg (RowG RowG.slice RowG.at lt_at mem_at blk_cell blk_set blk_far bel_new)

/-- Of each place the best body so far and one more than its view (0 without one). -/
def stp (st : Nat → ByteArray × Int) (c : Ct) : Nat → ByteArray × Int := fun i => if (i : Int) + 1 = (hd c).sq ∧ (st i).2 ≤ (hd c).vw then (c.bd, (hd c).vw + 1) else st i
def st0 : Nat → ByteArray × Int := fun _ => (⟨#[]⟩, 0)
def stOf (cs : List Ct) : Nat → ByteArray × Int := cs.foldl stp st0
def lastOf (cs : List Ct) : Nat := cs.foldl (fun m c => max m (hd c).sq.toNat) 0
theorem stOf_snoc (cs : List Ct) (c : Ct) : stOf (cs ++ [c]) = stp (stOf cs) c := by unfold stOf; rw [List.foldl_append]; rfl
theorem lastOf_snoc (cs : List Ct) (c : Ct) : lastOf (cs ++ [c]) = max (lastOf cs) (hd c).sq.toNat := by unfold lastOf; rw [List.foldl_append]; rfl
/-- What is known of a certificate that is right. -/
def Right (c : Ct) : Prop := c.ms[0]? = some (hd c) ∧ (1 ≤ (hd c).sq ∧ (hd c).sq ≤ 8) ∧ (0 ≤ (hd c).vw ∧ (hd c).vw ≤ 20) ∧ c.bd.size ≠ 0
theorem empty_no {s : ByteArray} (h : s.size = 0) : Tkb.rbOK (bys s) = false := by
  have e0 : s = ⟨#[]⟩ := ByteArray.ext (Array.eq_empty_of_size_eq_zero h)
  subst e0
  exact Tkb.rb_nil
theorem crt_right {n : Int} {c : Ct} (h : crtB n c.bd c.ms = true) : Right c := by
  obtain ⟨h1, h2, h3, h4, h5⟩ := crt_hd h
  refine ⟨h1, ⟨h2, h3⟩, ⟨h4, h5⟩, fun h0 => ?_⟩
  have hb := (bOf_iff.1 h).2.2.1
  unfold bdP bdB at hb
  rw [empty_no h0] at hb
  simp at hb
theorem crts_right {n view : Int} {x : Mg} (h : cfB n view x = true) : ∀ c ∈ crts x, Right c := fun c hc => by
  have h6 := (bOf_iff.1 h).2.2.2.2.2
  unfold crts at hc
  obtain ⟨t, ht, rfl⟩ := List.mem_map.1 hc
  obtain ⟨j, hj, e⟩ := List.getElem_of_mem ht
  have h7 := (bOf_iff.1 h6 j hj).1
  have e2 : Ty.tnth (Rl.rdL (bys x.bd)) j = t := by
    have := Rc.at_some hj
    rw [List.getElem?_eq_getElem hj, e] at this
    exact (Option.some.inj this).symm
  rw [e2] at h7
  unfold okC at h7
  rw [Bool.and_eq_true] at h7
  exact crt_right h7.2
/-- What holds of the places. -/
def Inv (st : Nat → ByteArray × Int) : Prop := ∀ i, 0 ≤ (st i).2 ∧ (st i).2 ≤ 21 ∧ ((st i).2 = 0 → st i = (⟨#[]⟩, 0)) ∧ ((st i).2 ≠ 0 → (st i).1.size ≠ 0)
theorem inv0 : Inv st0 := fun i => ⟨by show (0 : Int) ≤ 0; omega, by show (0 : Int) ≤ 21; omega, fun _ => rfl, fun h => absurd rfl h⟩
theorem inv_step {st : Nat → ByteArray × Int} {c : Ct} (h : Inv st) (hc : Right c) : Inv (stp st c) := fun i => by
  unfold stp
  split
  · refine ⟨?_, ?_, fun h0 => ?_, fun _ => hc.2.2.2⟩
    · show 0 ≤ (hd c).vw + 1; have := hc.2.2.1.1; omega
    · show (hd c).vw + 1 ≤ 21; have := hc.2.2.1.2; omega
    · have h1 : (hd c).vw + 1 = 0 := h0
      have := hc.2.2.1.1
      omega
  · exact h i
theorem inv_take {cs : List Ct} (h : ∀ c ∈ cs, Right c) : ∀ k, k ≤ cs.length → Inv (stOf (cs.take k)) ∧ lastOf (cs.take k) ≤ 8 ∧ ∀ i, lastOf (cs.take k) ≤ i → stOf (cs.take k) i = (⟨#[]⟩, 0)
  | 0, _ => ⟨inv0, Nat.zero_le _, fun i _ => rfl⟩
  | k + 1, hk => by
    obtain ⟨h1, h2, h3⟩ := inv_take h k (by omega)
    obtain ⟨c, hx⟩ := Rg.get_at (xs := cs) (k := k) (by omega)
    have hc := h c (mem_at hx)
    have e : cs.take (k + 1) = cs.take k ++ [c] := by rw [List.take_add_one, hx]; rfl
    rw [e, stOf_snoc, lastOf_snoc]
    have hs := hc.2.1
    refine ⟨inv_step h1 hc, by omega, fun i hi => ?_⟩
    unfold stp
    rw [if_neg (by rintro ⟨e, _⟩; omega)]
    exact h3 i (by omega)
theorem inv_of {cs : List Ct} (h : ∀ c ∈ cs, Right c) : Inv (stOf cs) ∧ lastOf cs ≤ 8 ∧ ∀ i, lastOf cs ≤ i → stOf cs i = (⟨#[]⟩, 0) := by
  have := inv_take h cs.length (Nat.le_refl _)
  rw [List.take_length] at this
  exact this
def nulB : ByteArray := ⟨#[0]⟩
def ent (st : Nat → ByteArray × Int) (i : Nat) : ByteArray := if (st i).2 = 0 then nulB else (st i).1
def planL (cs : List Ct) : List ByteArray := (List.range (lastOf cs)).map (ent (stOf cs))
/-- Certificates in a row, each with its votes in a row. -/
structure RdC (w : World) (B : Nat) (v : Value) (ps : List (Ct × Value)) : Prop where
  row : w.ownsRow B 29 2 v ps.length (ps.flatMap cc)
  mem : ∀ p ∈ ps, OwnM w B p.2 p.1.ms
theorem RdC.of {w : World} {B : Nat} {v : Value} {ps : List (Ct × Value)} (h : OwnC w B v ps) : RdC w B v ps := ⟨h.row, h.mem⟩
theorem RdC.lt {w : World} {B : Nat} {v : Value} {ps : List (Ct × Value)} (h : RdC w B v ps) : ∀ g, v.ownBlock = some g → B ≤ g ∧ g < w.heap.size := World.ownsRow.lt h.row
theorem RdC.below {w w' : World} {B : Nat} {v : Value} {ps : List (Ct × Value)} (h : RdC w B v ps) (hb : Below w.heap.size w w') : RdC w' B v ps :=
  ⟨row_kept h.row fun g hg => hb.block g (h.lt g hg).2, fun p hp => (h.mem p hp).below hb⟩
theorem RdC.mono {w : World} {B B' : Nat} {v : Value} {ps : List (Ct × Value)} (h : RdC w B v ps) (hb : B' ≤ B) : RdC w B' v ps := ⟨row_mono h.row hb, fun p hp => (h.mem p hp).mono hb⟩
theorem RdC.nil (w : World) (B : Nat) : RdC w B (.slice none 0 0) [] := RdC.of (OwnC.nil w B)
theorem RdC.slice {w : World} {B : Nat} {v : Value} {ps : List (Ct × Value)} (h : RdC w B v ps) : ∃ a cap, v = .slice a ps.length cap := by
  obtain ⟨hl, h⟩ := h.row
  rcases h with ⟨rfl, h0⟩ | ⟨g, cap, cur, rfl, h1, hg, h2⟩
  · exact ⟨none, 0, by rw [h0]⟩
  · exact ⟨_, cap, rfl⟩
theorem RdC.at {w : World} {B : Nat} {a : Option Addr} {l cap : Nat} {ps : List (Ct × Value)} {i : Nat} {p : Ct × Value} (h : RdC w B (.slice a l cap) ps) (hi : ps[i]? = some p) : ∃ g, a = some ⟨g, 0, none⟩ ∧ B ≤ g ∧ g < w.heap.size ∧ w.cell? ⟨g, i * 2, none⟩ = some (.string p.1.bd) ∧ w.cell? ⟨g, i * 2 + 1, none⟩ = some p.2 := by
  have hil := lt_at hi
  obtain ⟨hl, hh⟩ := h.row
  rcases hh with ⟨_, h0⟩ | ⟨g, cap', cur, e, hB, hg, hc, _, hs, htk⟩
  · omega
  · cases e
    have key : ∀ j u, j < 2 → (cc p)[j]? = some u → w.cell? ⟨g, i * 2 + j, none⟩ = some u := fun j u hj hu => by
      rw [Joins.cell_of_block hg, ← Array.getElem?_toList]
      have h1 := cc_at ps i p j hi hj
      rw [← htk, List.getElem?_take, if_pos (by omega)] at h1
      rw [h1, hu]
    exact ⟨g, rfl, hB, (Array.getElem?_eq_some_iff.1 hg).1, key 0 _ (by decide) rfl, key 1 _ (by decide) rfl⟩
theorem addr_add (g off j : Nat) : (⟨g, off, none⟩ : Addr).add j = ⟨g, off + j, none⟩ := by unfold Addr.add; split <;> simp_all
theorem one_own {w : World} {B : Nat} {v : Value} {ms : List Mg} (h : OwnM w B v ms) : v.oneCell' = true := by
  obtain ⟨a, cap, rfl⟩ := own_slice h
  rfl
/-- Certificates joined behind others. -/
theorem list_certs {P : Program} {ops : Array Oper} {rest : List Oper} {o : Oper} {a : Act} {Q : Exit → Act → World → Prop} (hgd : o.guard = none) (s x : Operand) (t : TypeId)
    (ho : o.op = .call { callee := .builtin .append, args := #[s, x], argTypes := #[t, t] }) (i : TypeInfo) (ht : P.underlying t = some (.slice 29)) (hi : P.info? 29 = some i) (hz : i.zero = some (.agg #[.string ⟨#[]⟩, .slice none 0 0]))
    (hsize : i.size = 2) (hby : i.bytes = 40) (B : Nat) (w0 W : World) (v u : Value) (ps qs : List (Ct × Value)) (hs : a.eval s = v) (hx : a.eval x = u) (hown : RdC W B v ps) (hu : RdC W B u qs) (hg0 : Below B w0 W) (hB : B ≤ W.heap.size) (hlen : ps.length + qs.length ≤ 1000000)
    (h : ∀ v' w', RdC w' B v' (ps ++ qs) → Below B w0 w' → wpList P ops Q rest (a.put o.dst v') w') : wpList P ops Q (o :: rest) a W := by
  obtain ⟨ad, cap, rfl⟩ := hu.slice
  have hrow := hown.row
  have hmk : ∀ (w' : World) (B' : Nat), W.grownBy w' v.ownBlock → ∀ q : Ct × Value, OwnM W B q.2 q.1.ms → OwnM w' B q.2 q.1.ms := fun w' _ h2 q hq => hq.kept fun g hg => h2.block g (hq.lt g hg).2 (fun e => row_ne hown.row hq g hg e)
  cases ad with
  | none =>
    obtain rfl : qs = [] := by
      obtain ⟨_, hh⟩ := hu.row
      rcases hh with ⟨_, h0⟩ | ⟨g, cap', cur, e, _⟩
      · exact List.length_eq_zero_iff.1 h0
      · cases e
    have hr : (Builtin.append_ #[t, t] o.type #[v, .slice none 0 cap]).run P W = .ok v W := by
      rcases hrow.2 with ⟨rfl, _⟩ | ⟨g, c, cur, rfl, _, _, hn, _⟩
      · exact run_append_nothing W t t o.type _ i ht hi none 0 0 (Nat.le_refl _) _ (Src.ofNil W ht cap)
      · exact run_append_nothing W t t o.type _ i ht hi _ _ _ hn _ (Src.ofNil W ht cap)
    refine wpList_plain hgd fun K hK => ?_
    unfold Oper.wp execOp
    simp only [ho, resolve, invoke, builtin, Sem.run_bind, Sem.run_pure, Result.andThen_ok, List.map_toArray, List.map_cons, List.map_nil, hs, hx, List.length_nil, hr]
    exact hK _ _ (h v W (by simpa using hown) hg0)
  | some ad =>
    obtain ⟨g, rfl⟩ : ∃ g, ad = ⟨g, 0, none⟩ := by
      obtain ⟨_, hh⟩ := hu.row
      rcases hh with ⟨e, _⟩ | ⟨g, cap', cur, e, _⟩
      · cases e
      · cases e; exact ⟨g, rfl⟩
    refine wpList_append_own_at (P := P) _ hgd s x t ho B 29 i _ 2 40 ht hi hz hsize hby rfl (by decide) v ps.length _ hs hrow ⟨g, 0, none⟩ qs.length cap (qs.flatMap cc) hx (cc_len qs) ?_ ?_ (by unfold maxLen; omega) (by omega) hB ?_
    · intro j y hy
      have hj : j < qs.length * 2 := by have := (List.getElem?_eq_some_iff.1 hy).1; rw [cc_len] at this; exact this
      obtain ⟨r, hr⟩ := Rg.get_at (xs := qs) (k := j / 2) (by omega)
      obtain ⟨g', e, _, _, E0, E1⟩ := hu.at hr
      cases e
      rw [addr_add, Nat.zero_add]
      have e2 := cc_at qs (j / 2) r (j % 2) hr (by omega)
      rw [show j / 2 * 2 + j % 2 = j by omega, hy] at e2
      rcases Nat.mod_two_eq_zero_or_one j with h0 | h0
      · rw [h0] at e2
        have : y = .string r.1.bd := by simpa [cc] using e2
        rw [this, ← E0]
        congr 2
        omega
      · rw [h0] at e2
        have : y = r.2 := by simpa [cc] using e2
        rw [this, ← E1]
        congr 2
        omega
    · intro y hy
      obtain ⟨r, hr, hy⟩ := List.mem_flatMap.1 hy
      unfold cc at hy
      simp at hy
      rcases hy with rfl | rfl
      · rfl
      · exact one_own (hu.mem r hr)
    · intro v' w' h1 h2 h3 h4
      refine h v' w' ⟨?_, ?_⟩ (hg0.grown h2 hB (fun k hk => (hown.lt k hk).1))
      · rw [List.flatMap_append, List.length_append]; exact h1
      · intro r hr
        rcases List.mem_append.1 hr with hr | hr
        · exact hmk w' B h2 r (hown.mem r hr)
        · exact hmk w' B h2 r (hu.mem r hr)
end Go.Proofs.YtddmdnljfnimbaaGreatDoor.Pl

/- The plan of a quorum: what all of them bring. -/
namespace Go.Proofs.YtddmdnljfnimbaaGreatDoor.Pl
open Go.RowKit Go.Proofs.YtddmdnljfnimbaaGreatDoor.Sl Go.Proofs.YtddmdnljfnimbaaGreatDoor.By Go.Proofs.YtddmdnljfnimbaaGreatDoor.Ap Go.Proofs.YtddmdnljfnimbaaGreatDoor.Gm Go.Proofs.YtddmdnljfnimbaaGreatDoor.Sh Go.Proofs.YtddmdnljfnimbaaGreatDoor.Vt Go.Proofs.YtddmdnljfnimbaaGreatDoor.Tm Go.Proofs.YtddmdnljfnimbaaGreatDoor.Wc
open Go.Proofs.YtddmdnljfnimbaaGreatDoor.Rc (OwnM OwnM.row OwnM.kept OwnM.lt OwnM.below OwnM.mono)
open Go.Proofs.YtddmdnljfnimbaaGreatDoor.Qm (qOut)
open Go.Proofs.YtddmdnljfnimbaaGreatDoor.Rg (RowG RowG.slice RowG.at lt_at mem_at blk_cell blk_set blk_far bel_new)

/-- They are votes of a quorum, and each brings what is right. -/
noncomputable def caB (n view : Int) (ms : List Mg) : Bool := qvB n ms && ms.all (cfB n view)
noncomputable def caL (ms : List Mg) : List Ct := ms.flatMap crts
theorem all_step {n view : Int} {ms : List Mg} {k : Nat} {x : Mg} (h : ms[k]? = some x) : (ms.drop k).all (cfB n view) = (cfB n view x && (ms.drop (k + 1)).all (cfB n view)) := by
  obtain ⟨hk, rfl⟩ := List.getElem?_eq_some_iff.1 h
  rw [List.drop_eq_getElem_cons hk, List.all_cons]
theorem fm_step {ms : List Mg} {k : Nat} {x : Mg} (h : ms[k]? = some x) : caL (ms.take (k + 1)) = caL (ms.take k) ++ crts x := by
  unfold caL
  rw [List.take_add_one, h, List.flatMap_append]; simp
theorem crts_len {n view : Int} {x : Mg} (h : cfB n view x = true) : (crts x).length ≤ 8 := by
  unfold crts
  rw [List.length_map]
  refine Nat.le_of_not_lt fun h8 => ?_
  have h9 := (bOf_iff.1 h).2.2.2.2.2
  rw [rs_eight h8] at h9
  cases h9
set_option maxRecDepth 100000 in
set_option maxHeartbeats 1600000 in
theorem certsOfAll_any (n view : Int) (v : Value) (ms : List Mg) (w : World) (h : Row w v ms) (hl : ms.length ≤ 1048576) (hb : ∀ x ∈ ms, x.bd.size ≤ 1048576) (hK : KTab w) (hp : 0 < w.heap.size) :
    Calls Tryz.prog 44 #[.int .i64 n, .int .i64 view, v] w fun e w' => ∃ u, e = .returned (.tuple #[u, .bool (caB n view ms)]) ∧ (caB n view ms = true → ∃ ps, ps.map (·.1) = caL ms ∧ RdC w' w.heap.size u ps) ∧ Below w.heap.size w w' := by
  obtain ⟨i0, hi0, hz0, hz1, hz2⟩ := info_parts info_c
  have GK : Hid (∀ W, Below w.heap.size w W → KTab W ∧ 0 < W.heap.size) := fun W hW => ⟨hK.below hW hp, Nat.lt_of_lt_of_le hp hW.size⟩
  have HQV := quorumVotes_any n v ms w h hl hK hp
  have HE : Hid (caB n view ms = (qvB n ms && ms.all (cfB n view))) := rfl
  have HBD : Hid (∀ x ∈ ms, x.bd.size ≤ 1048576) := hb
  obtain ⟨a, cap, rfl⟩ := RowG.slice h
  clear h hK hp hb
  cases hq : qvB n ms with
  | false =>
    rw [hq] at HQV HE
    go_enter Tryz.func44, Tryz.ntmps44
    go_wp2_with fail
    refine HQV.mono ?_
    rintro e w1 ⟨u, rfl, -, b1⟩
    have B1 : Hid (Below w.heap.size w w1) := b1
    have HF : Hid (caB n view ms = false) := HE.out
    clear b1
    go_wp2_with fail
    go_ret2
    exact ⟨_, ret_vb HF.out.symm, fun hh => absurd (HF.out.symm.trans hh) (by decide), B1.out⟩
  | true =>
    obtain ⟨hf, hlen, _, _⟩ := qv_iff.1 hq
    have h5 : ms.length ≤ 5 := by have := (q_pos hf).2; omega
    rw [hq, Bool.true_and] at HE
    rw [hq] at HQV
    clear hq hf hlen
    go_enter Tryz.func44, Tryz.ntmps44
    go_wp2_with fail
    refine HQV.mono ?_
    rintro e w1 ⟨u, rfl, o1, b1⟩
    have B1 : Hid (Below w.heap.size w w1) := b1
    have O1 : Hid (OwnV w1 w.heap.size u (vts n ms)) := o1 trivial
    obtain ⟨ua, ucap, rfl⟩ := OwnV.slice (o1 trivial)
    have HVL : (vts n ms).length = ms.length := by unfold vts; rw [List.length_map]
    have HVA : Hid (∀ k x, ms[k]? = some x → (vts n ms)[k]? = some (votV n x)) := fun k x hx => by unfold vts; rw [List.getElem?_map, hx]; rfl
    rw [HVL] at O1 ⊢
    clear b1 o1 HVL HQV
    go_wp2_with fail
    go_loopw [10, 25] (fun b i wr => ∃ (k : Nat) (ps : List (Ct × Value)), k ≤ ms.length ∧ i = .int .i64 k ∧ Hid (ms.all (cfB n view) = (ms.drop k).all (cfB n view) ∧ ps.map (·.1) = caL (ms.take k) ∧ ps.length ≤ 8 * k ∧ RdC wr w1.heap.size b ps ∧ Below w1.heap.size w1 wr)) (fun _ i _ => ms.length - (intOf i).toNat)
    case atStart => exact ⟨0, [], by omega, rfl, ⟨by rw [List.drop_zero], rfl, Nat.le_refl _, RdC.nil _ _, Below.refl _ _⟩⟩
    case round =>
      obtain ⟨k, ps, hk, rfl, HZ⟩ := hrel
      obtain ⟨v0, rfl⟩ : ∃ v0, v0 = u10 := ⟨_, rfl⟩
      by_cases hlt : k < ms.length
      · obtain ⟨x, hx⟩ := Rg.get_at hlt
        obtain ⟨g, rfl, hg, c0⟩ := OwnV.at (O1.out.below HZ.out.2.2.2.2) (HVA.out k x hx)
        have BR : Hid (Below w.heap.size w wr) := B1.out.trans (HZ.out.2.2.2.2.mono B1.out.size)
        have HCO : Hid (Calls Tryz.prog 35 #[.int .i64 n, .int .i64 view, votV n x] wr fun e w' => ∃ u, e = .returned (.tuple #[u, .bool (cfB n view x)]) ∧ (cfB n view x = true → ∃ ps, ps.map (·.1) = crts x ∧ OwnC w' wr.heap.size u ps) ∧ Below wr.heap.size wr w') := certsOf_any n view x wr (HBD.out x (mem_at hx)) (GK.out _ BR.out).1 (GK.out _ BR.out).2
        have HST : Hid (ms.all (cfB n view) = (cfB n view x && (ms.drop (k + 1)).all (cfB n view))) := HZ.out.1.trans (all_step hx)
        have HFM : Hid (caL (ms.take (k + 1)) = caL (ms.take k) ++ crts x) := fm_step hx
        have HC8 : Hid (cfB n view x = true → (crts x).length ≤ 8) := crts_len
        generalize votV n x = vv at c0 HCO
        generalize crts x = cx at HCO HFM HC8
        obtain ⟨q, HQ⟩ : ∃ q, Hid (cfB n view x = q) := ⟨_, rfl⟩
        rw [HQ.out] at HCO HST HC8
        clear hx
        cases q with
        | false =>
          have HF : Hid (caB n view ms = false) := by show _ = _; rw [HE.out, HST.out]; rfl
          go_wp2_with fail
          refine HCO.out.mono ?_
          rintro e w2 ⟨u2, rfl, -, b2⟩
          have B2 : Hid (Below w.heap.size w w2) := BR.out.trans (b2.mono BR.out.size)
          clear b2
          go_wp2_with fail
          go_ret2
          exact ⟨_, ret_vb HF.out.symm, fun hh => absurd (HF.out.symm.trans hh) (by decide), B2.out⟩
        | true =>
          go_wp2_with fail
          refine HCO.out.mono ?_
          rintro e w2 ⟨u2, rfl, o2, b2⟩
          obtain ⟨qs, m2, o2⟩ := o2 trivial
          have B2 : Hid (Below w1.heap.size w1 w2) := HZ.out.2.2.2.2.trans (b2.mono HZ.out.2.2.2.2.size)
          have P2 : Hid (RdC w2 w1.heap.size v0 ps) := HZ.out.2.2.2.1.below b2
          have Q2 : Hid (RdC w2 w1.heap.size u2 qs) := (RdC.of o2).mono HZ.out.2.2.2.2.size
          have HQL : Hid (qs.length ≤ 8) := by have := congrArg List.length m2; rw [List.length_map] at this; have h8 := HC8.out trivial; show _ ≤ _; omega
          have HPL : Hid (ps.length + qs.length ≤ 1000000) := by have h1 := HZ.out.2.2.1; have h2 := HQL.out; show _ ≤ _; omega
          have HMM : Hid ((ps ++ qs).map (·.1) = caL (ms.take (k + 1)) ∧ (ps ++ qs).length ≤ 8 * (k + 1)) := ⟨by rw [List.map_append, HZ.out.2.1, HFM.out, m2], by rw [List.length_append]; have h1 := HZ.out.2.2.1; have h2 := HQL.out; omega⟩
          clear b2 o2 m2
          go_wp2_with (at_builtin; go_must (refine list_certs (by rfl) _ _ 36 (by rfl) i0 Tryz.underlying36 hi0 hz0 hz1 hz2 w1.heap.size w1 w2 _ _ ps qs (by rfl) (by rfl) P2.out Q2.out B2.out B2.out.size HPL.out ?_; intro v7 w7 o7 b7))
          exact ⟨⟨k + 1, ps ++ qs, by omega, by go_num, ⟨by rw [HST.out]; rfl, HMM.out.1, HMM.out.2, o7, b7⟩⟩, by simp [intOf]; omega⟩
      · obtain rfl : k = ms.length := by omega
        have HF : Hid (caB n view ms = true) := by show _ = _; rw [HE.out, HZ.out.1, List.drop_length]; rfl
        have HP : Hid (∃ ps, ps.map (·.1) = caL ms ∧ RdC wr w.heap.size v0 ps) := ⟨ps, by have := HZ.out.2.1; rw [List.take_length] at this; exact this, HZ.out.2.2.2.1.mono B1.out.size⟩
        go_wp2_with fail
        go_ret2
        exact ⟨_, ret_vb HF.out.symm, fun _ => HP.out, B1.out.trans (HZ.out.2.2.2.2.mono B1.out.size)⟩
/-- The first L places of a plan. -/
def ents (st : Nat → ByteArray × Int) (L : Nat) : List ByteArray := (List.range L).map (ent st)
theorem ents_len (st : Nat → ByteArray × Int) (L : Nat) : (ents st L).length = L := by unfold ents; rw [List.length_map, List.length_range]
theorem ents_at (st : Nat → ByteArray × Int) {L i : Nat} (h : i < L) : (ents st L)[i]? = some (ent st i) := by
  unfold ents; rw [List.getElem?_map, List.getElem?_range h]; rfl
theorem ents_succ {st : Nat → ByteArray × Int} {L : Nat} (h : (st L).2 = 0) : ents st (L + 1) = ents st L ++ [nulB] := by
  unfold ents
  rw [List.range_succ, List.map_append]
  congr 1
  show [ent st L] = _
  unfold ent
  rw [if_pos h]
theorem stp_hit {st : Nat → ByteArray × Int} {c : Ct} {j : Nat} (hj : (hd c).sq = (j : Int) + 1) (h : (st j).2 ≤ (hd c).vw) : stp st c j = (c.bd, (hd c).vw + 1) := by
  unfold stp; rw [if_pos ⟨by omega, h⟩]
theorem stp_miss {st : Nat → ByteArray × Int} {c : Ct} {i j : Nat} (hj : (hd c).sq = (j : Int) + 1) (h : j ≠ i) : stp st c i = st i := by
  unfold stp; rw [if_neg (by rintro ⟨e2, _⟩; omega)]
theorem ents_step {st : Nat → ByteArray × Int} {c : Ct} {j L : Nat} (hj : (hd c).sq = (j : Int) + 1) (hv : 0 ≤ (hd c).vw) (h : (st j).2 ≤ (hd c).vw) : ents (stp st c) L = (ents st L).set j c.bd := by
  apply List.ext_getElem?
  intro i
  by_cases hi : i < L
  · rw [ents_at _ hi, List.getElem?_set]
    by_cases e : j = i
    · subst e
      rw [if_pos rfl, if_pos (by rw [ents_len]; exact hi)]
      unfold ent
      rw [stp_hit hj h]
      show some (if (hd c).vw + 1 = 0 then nulB else c.bd) = _
      rw [if_neg (by omega)]
    · rw [if_neg e, ents_at _ hi]
      unfold ent
      rw [stp_miss hj e]
  · rw [List.getElem?_eq_none (by rw [ents_len]; omega), List.getElem?_eq_none (by rw [List.length_set, ents_len]; omega)]
theorem stp_same {st : Nat → ByteArray × Int} {c : Ct} {j : Nat} (hj : (hd c).sq = (j : Int) + 1) (h : ¬ (st j).2 ≤ (hd c).vw) : stp st c = st := by
  funext i
  unfold stp
  rw [if_neg]
  rintro ⟨e, h2⟩
  have : i = j := by omega
  subst this
  exact h h2
/-- The views that the program keeps beside them. -/
def abv (st : Nat → ByteArray × Int) : Array Value := #[.int .i64 (st 0).2, .int .i64 (st 1).2, .int .i64 (st 2).2, .int .i64 (st 3).2, .int .i64 (st 4).2, .int .i64 (st 5).2, .int .i64 (st 6).2, .int .i64 (st 7).2]
theorem abv_at (st : Nat → ByteArray × Int) {j : Nat} (h : j < 8) : (abv st)[j]? = some (.int .i64 (st j).2) := by
  have : j = 0 ∨ j = 1 ∨ j = 2 ∨ j = 3 ∨ j = 4 ∨ j = 5 ∨ j = 6 ∨ j = 7 := by omega
  rcases this with rfl | rfl | rfl | rfl | rfl | rfl | rfl | rfl <;> rfl
theorem abv_step {st : Nat → ByteArray × Int} {c : Ct} {j : Nat} (hj : (hd c).sq = (j : Int) + 1) (h8 : j < 8) (h : (st j).2 ≤ (hd c).vw) : abv (stp st c) = (abv st).setIfInBounds j (.int .i64 ((hd c).vw + 1)) := by
  apply Array.ext_getElem?
  intro i
  by_cases hi : i < 8
  · rw [abv_at _ hi, Array.getElem?_setIfInBounds]
    by_cases e : j = i
    · subst e
      rw [if_pos rfl, if_pos (by show j < 8; exact h8)]
      rw [stp_hit hj h]
    · rw [if_neg e, abv_at _ hi, stp_miss hj e]
  · rw [Array.getElem?_eq_none (by show 8 ≤ i; omega), Array.getElem?_eq_none (by rw [Array.size_setIfInBounds]; show 8 ≤ i; omega)]
end Go.Proofs.YtddmdnljfnimbaaGreatDoor.Pl

/- The plan of a quorum: the program makes it. -/
namespace Go.Proofs.YtddmdnljfnimbaaGreatDoor.Pl
open Go.RowKit Go.Proofs.YtddmdnljfnimbaaGreatDoor.Sl Go.Proofs.YtddmdnljfnimbaaGreatDoor.By Go.Proofs.YtddmdnljfnimbaaGreatDoor.Ap Go.Proofs.YtddmdnljfnimbaaGreatDoor.Gm Go.Proofs.YtddmdnljfnimbaaGreatDoor.Sh Go.Proofs.YtddmdnljfnimbaaGreatDoor.Vt Go.Proofs.YtddmdnljfnimbaaGreatDoor.Tm Go.Proofs.YtddmdnljfnimbaaGreatDoor.Wc
open Go.Proofs.YtddmdnljfnimbaaGreatDoor.Rc (OwnM OwnM.row OwnM.kept OwnM.lt OwnM.below OwnM.mono Kq)
open Go.Proofs.YtddmdnljfnimbaaGreatDoor.Tl (OwnS)
open Go.Proofs.YtddmdnljfnimbaaGreatDoor.Bd (dOut)
open Go.Proofs.YtddmdnljfnimbaaGreatDoor.Rg (RowG RowG.slice RowG.at lt_at mem_at blk_cell blk_set blk_far bel_new)

theorem ownS_lt {w : World} {B : Nat} {v : Value} {ts : List ByteArray} (h : OwnS w B v ts) : ∀ g, v.ownBlock = some g → B ≤ g ∧ g < w.heap.size := World.ownsRow.lt h
theorem ownS_kept {w w' : World} {B : Nat} {v : Value} {ts : List ByteArray} (h : OwnS w B v ts) (hk : ∀ g, v.ownBlock = some g → w'.heap[g]? = w.heap[g]?) : OwnS w' B v ts := row_kept h hk
theorem ownS_below {w w' : World} {B : Nat} {v : Value} {ts : List ByteArray} (h : OwnS w B v ts) (hb : Below w.heap.size w w') : OwnS w' B v ts := ownS_kept h fun g hg => hb.block g (ownS_lt h g hg).2
theorem ownS_mono {w : World} {B B' : Nat} {v : Value} {ts : List ByteArray} (h : OwnS w B v ts) (hb : B' ≤ B) : OwnS w B' v ts := row_mono h hb
theorem ownS_slice {w : World} {B : Nat} {v : Value} {ts : List ByteArray} (h : OwnS w B v ts) : ∃ a cap, v = .slice a ts.length cap := by
  obtain ⟨hl, h⟩ := h
  rcases h with ⟨rfl, h0⟩ | ⟨g, cap, cur, rfl, h1, hg, h2⟩
  · exact ⟨none, 0, by rw [h0]⟩
  · exact ⟨_, cap, rfl⟩
theorem ownS_at {w : World} {B : Nat} {a : Option Addr} {l cap : Nat} {ts : List ByteArray} {i : Nat} {t : ByteArray} (h : OwnS w B (.slice a l cap) ts) (hi : ts[i]? = some t) : ∃ g, a = some ⟨g, 0, none⟩ ∧ B ≤ g ∧ g < w.heap.size ∧ w.cell? ⟨g, i, none⟩ = some (.string t) ∧ w.frozen? ⟨g, i, none⟩ = false := by
  have hil := lt_at hi
  obtain ⟨hl, hh⟩ := h
  rcases hh with ⟨_, h0⟩ | ⟨g, cap', cur, e, hB, hg, hc, _, hs, htk⟩
  · omega
  · cases e
    refine ⟨g, rfl, hB, (Array.getElem?_eq_some_iff.1 hg).1, ?_⟩
    refine blk_cell hg i ?_
    rw [← Array.getElem?_toList]
    have h1 : (ts.map Value.string)[i]? = some (.string t) := by rw [List.getElem?_map, hi]; rfl
    rw [← htk, List.getElem?_take] at h1
    split at h1
    · exact h1
    · cases h1
theorem ownS_set {w : World} {B g l cap : Nat} {ts : List ByteArray} {j : Nat} (h : OwnS w B (.slice (some ⟨g, 0, none⟩) l cap) ts) (z : ByteArray) : OwnS (w.setCell ⟨g, j, none⟩ (.string z)) B (.slice (some ⟨g, 0, none⟩) l cap) (ts.set j z) := by
  obtain ⟨_, hh⟩ := h
  refine ⟨by simp, ?_⟩
  rcases hh with ⟨e, _⟩ | ⟨g', cap', cur, e, hB, hg, hc, hc2, hs, htk⟩
  · cases e
  · cases e
    refine .inr ⟨g, cap, cur.setIfInBounds j (.string z), by rw [List.length_set], hB, blk_set hg j _, by rw [List.length_set]; exact hc, hc2, by rw [Array.size_setIfInBounds]; exact hs, ?_⟩
    rw [List.length_set, Array.toList_setIfInBounds, List.take_set, htk, List.map_set]
/-- Rows of texts lie in no block of another kind. -/
theorem ownS_ne {w : World} {B x : Nat} {v : Value} {ts : List ByteArray} {cs : Array Value} {t : TypeId} (ht : t ≠ 9) (h : OwnS w B v ts) (hx : w.heap[x]? = some (.cells cs t (0, 0))) : some x ≠ v.ownBlock := by
  intro e
  obtain ⟨_, h | ⟨g', cap', cur, he, _, hgg, _⟩⟩ := h
  · rw [h.1] at e; simp [Value.ownBlock] at e
  · rw [he] at e
    simp [Value.ownBlock] at e
    subst e
    rw [hx] at hgg
    simp at hgg
    exact ht hgg.2
/-- One text more; nothing else is written. -/
theorem list_txq {P : Program} {ops : Array Oper} {rest : List Oper} {o : Oper} {a : Act} {Q : Exit → Act → World → Prop} (hgd : o.guard = none) (s x : Operand) (t : TypeId)
    (ho : o.op = .call { callee := .builtin .append, args := #[s, x], argTypes := #[t, t] }) (i : TypeInfo) (ht : P.underlying t = some (.slice 9)) (hi : P.info? 9 = some i) (hz : i.zero = some (.string ⟨#[]⟩))
    (hsize : i.size = 1) (hby : i.bytes = 16) (B : Nat) (W : World) (v : Value) (ts : List ByteArray) (z : ByteArray) (hs : a.eval s = v) (hown : OwnS W B v ts) (hB : B ≤ W.heap.size)
    (hx : a.eval x = .slice (some ⟨W.heap.size, 0, none⟩) 1 1) (hlen : ts.length ≤ 1000000)
    (h : ∀ v' w', OwnS w' B v' (ts ++ [z]) → Below B W w' → Kq W w' v v' → wpList P ops Q rest (a.put o.dst v') w') : wpList P ops Q (o :: rest) a (W.alloc (.cells #[.string z] 9)) := by
  have hown' : OwnS (W.alloc (.cells #[.string z] 9)) B v ts := ownS_below hown (bel_new _ _)
  refine wpList_append_own_at (P := P) _ hgd s x t ho B 9 i (.string ⟨#[]⟩) 1 16 ht hi hz hsize hby rfl (by decide) v ts.length _ hs hown' ⟨W.heap.size, 0, none⟩ 1 1 [.string z] hx (by simp) (cell_one_new _ _ _) ?_ (by unfold maxLen; omega) (by omega) (by simp; omega) ?_
  · intro c hc
    simp at hc
    subst hc
    rfl
  · intro v' w' h1 h2 h3 h4
    refine h v' w' (by unfold OwnS; simpa using h1) ((((Below.refl B W).alloc hB _)).grown h2 (by simp; omega) (fun k hk => (ownS_lt hown' k hk).1)) (fun k hk hn => ⟨(h2.block k (by simp; omega) hn).trans (Below.heap_alloc W _ k hk), fun e => ?_⟩)
    rcases h4 with h4 | h4
    · exact hn (e.trans h4)
    · rw [h4] at e
      simp at e
      omega
/-- While the program makes a plan. -/
structure Pst (w wr : World) (b : Value) (st : Nat → ByteArray × Int) (L : Nat) : Prop where
  ha : wr.heap[w.heap.size]? = some (.cells (abv st) 107 (0, 0))
  own : OwnS wr (w.heap.size + 1) b (ents st L)
  bel : Below w.heap.size w wr
theorem Pst.below {w wr w' : World} {b : Value} {st : Nat → ByteArray × Int} {L : Nat} (h : Pst w wr b st L) (hb : Below wr.heap.size wr w') : Pst w w' b st L :=
  ⟨(hb.block _ (Array.getElem?_eq_some_iff.1 h.ha).1).trans h.ha, ownS_below h.own hb, h.bel.trans (hb.mono h.bel.size)⟩
structure Pin (w wr : World) (b : Value) (st : Nat → ByteArray × Int) (L xb yb : Nat) (bd : ByteArray) (vp : Value) (vw sq : Int) (dd : ByteArray) : Prop where
  ps : Pst w wr b st L
  hx : wr.heap[xb]? = some (.cells #[.string bd, vp] 29 (0, 0))
  hy : wr.heap[yb]? = some (.cells #[.int .i64 vw, .int .i64 sq, .string dd] 61 (0, 0))
theorem Pin.below {w wr w' : World} {b : Value} {st : Nat → ByteArray × Int} {L xb yb : Nat} {bd : ByteArray} {vp : Value} {vw sq : Int} {dd : ByteArray} (h : Pin w wr b st L xb yb bd vp vw sq dd) (hb : Below wr.heap.size wr w') : Pin w w' b st L xb yb bd vp vw sq dd :=
  ⟨h.ps.below hb, (hb.block _ (Array.getElem?_eq_some_iff.1 h.hx).1).trans h.hx, (hb.block _ (Array.getElem?_eq_some_iff.1 h.hy).1).trans h.hy⟩
theorem Pin.app {w wr w' : World} {b b' : Value} {st : Nat → ByteArray × Int} {L xb yb : Nat} {bd : ByteArray} {vp : Value} {vw sq : Int} {dd : ByteArray} (h : Pin w wr b st L xb yb bd vp vw sq dd) (h0 : (st L).2 = 0) (ho : OwnS w' (w.heap.size + 1) b' (ents st L ++ [nulB])) (hb : Below (w.heap.size + 1) wr w') (hk : Kq wr w' b b') : Pin w w' b' st (L + 1) xb yb bd vp vw sq dd := by
  have k1 : ∀ (x : Nat) (cs : Array Value) (t : TypeId), t ≠ 9 → wr.heap[x]? = some (.cells cs t (0, 0)) → w'.heap[x]? = some (.cells cs t (0, 0)) := fun x cs t ht hx => (hk x (Array.getElem?_eq_some_iff.1 hx).1 (ownS_ne ht h.ps.own hx)).1.trans hx
  exact ⟨⟨k1 _ _ _ (by decide) h.ps.ha, by rw [ents_succ h0]; exact ho, h.ps.bel.trans (hb.mono (Nat.le_succ _))⟩, k1 _ _ _ (by decide) h.hx, k1 _ _ _ (by decide) h.hy⟩
def lenOf : Value → Nat
  | .slice _ n _ => n
  | _ => 0
theorem cert_at {cs : List Ct} {k : Nat} {c : Ct} (h : cs[k]? = some c) : cs.take (k + 1) = cs.take k ++ [c] := by rw [List.take_add_one, h]; rfl
theorem big_last {st : Nat → ByteArray × Int} {L M : Nat} (h : ∀ i, M ≤ i → st i = (⟨#[]⟩, 0)) (hL : M ≤ L) : (st L).2 = 0 := by rw [h L hL]
set_option maxRecDepth 100000 in
set_option maxHeartbeats 3200000 in
theorem planFrom_any (v : Value) (ps : List (Ct × Value)) (B : Nat) (w : World) (h : RdC w B v ps) (hr : ∀ p ∈ ps, Right p.1) (hl : ps.length ≤ 1000) (hK : KTab w) (hp : 0 < w.heap.size) :
    Calls Tryz.prog 45 #[v] w fun e w' => ∃ u, e = .returned u ∧ OwnS w' w.heap.size u (planL (ps.map (·.1))) ∧ Below w.heap.size w w' := by
  obtain ⟨i0, hi0, hz0, hz1, hz2⟩ := info_parts Ty.info9
  have GK : Hid (∀ W, Below w.heap.size w W → KTab W ∧ 0 < W.heap.size) := fun W hW => ⟨hK.below hW hp, Nat.lt_of_lt_of_le hp hW.size⟩
  have HR : Hid (RdC w B v ps) := h
  obtain ⟨a, cap, rfl⟩ := h.slice
  obtain ⟨cs, HCS⟩ : ∃ cs, Hid (ps.map (·.1) = cs) := ⟨_, rfl⟩
  have HRT : Hid (∀ c ∈ cs, Right c) := fun c hc => by rw [← HCS.out] at hc; obtain ⟨p, hp, rfl⟩ := List.mem_map.1 hc; exact hr p hp
  have HAT : Hid (∀ (k : Nat) (p : Ct × Value), ps[k]? = some p → cs[k]? = some p.1) := fun k p hp => by rw [← HCS.out, List.getElem?_map, hp]; rfl
  have HCL : Hid (cs.length = ps.length) := by show _ = _; rw [← HCS.out, List.length_map]
  rw [HCS.out]
  have HP0 : Hid (Pst w (w.alloc (.cells #[.int .i64 0, .int .i64 0, .int .i64 0, .int .i64 0, .int .i64 0, .int .i64 0, .int .i64 0, .int .i64 0] 107)) (.slice none 0 0) (stOf (cs.take 0)) (lastOf (cs.take 0))) := ⟨heap_alloc_new w _, World.ownsRow_nil _ _ _ _, bel_new _ _⟩
  clear h hr hK hp HCS
  go_enter Tryz.func45, Tryz.ntmps45
  go_wp2_with fail
  generalize w.alloc (.cells #[.int .i64 0, .int .i64 0, .int .i64 0, .int .i64 0, .int .i64 0, .int .i64 0, .int .i64 0, .int .i64 0] 107) = wa at HP0 ⊢
  go_loopw [3, 11] (fun b i wr => ∃ k : Nat, k ≤ ps.length ∧ i = .int .i64 k ∧ Hid (Pst w wr b (stOf (cs.take k)) (lastOf (cs.take k)))) (fun _ i _ => ps.length - (intOf i).toNat)
  case atStart => exact ⟨0, by omega, rfl, HP0.out⟩
  case round =>
    obtain ⟨k, hk, rfl, HZ⟩ := hrel
    obtain ⟨v0, rfl⟩ : ∃ v0, v0 = u3 := ⟨_, rfl⟩
    by_cases hlt : k < ps.length
    · obtain ⟨p, hpk⟩ := Rg.get_at hlt
      have hpc := HAT.out k p hpk
      have HRC := HRT.out p.1 (mem_at hpc)
      have HM := (HR.out.below HZ.out.bel).mem p (mem_at hpk)
      obtain ⟨g, rfl, _, _, c0, c1⟩ := (HR.out.below HZ.out.bel).at hpk
      obtain ⟨pa, pcap, hpv⟩ := own_slice HM
      obtain ⟨⟨bd, ms⟩, vp⟩ := p
      simp only at hpv
      subst hpv
      have HRC : Right ⟨bd, ms⟩ := HRC
      have HTK : Hid (cs.take (k + 1) = cs.take k ++ [⟨bd, ms⟩]) := cert_at hpc
      obtain ⟨hI, hL8, hLZ⟩ := inv_take HRT.out k (by have := HCL.out; omega)
      have HBL : Hid (∀ W, Below wr.heap.size wr W → Calls Tryz.prog 32 #[.agg #[.string bd, .slice pa ms.length pcap]] W fun e w' => e = .returned (.agg #[.int .i64 (hd ⟨bd, ms⟩).vw, .int .i64 (hd ⟨bd, ms⟩).sq, .string (dOut bd)]) ∧ Below W.heap.size W w') := fun W hW => by
        have g := GK.out W (HZ.out.bel.trans (hW.mono HZ.out.bel.size))
        exact ballotOf_any bd _ ms (hd ⟨bd, ms⟩) W (HM.below hW).row HRC.1 g.1 g.2
      have HV0 : Hid (0 ≤ (hd ⟨bd, ms⟩).vw) := HRC.2.2.1.1
      obtain ⟨j, hj⟩ : ∃ j : Nat, (hd ⟨bd, ms⟩).sq = (j : Int) + 1 := ⟨((hd ⟨bd, ms⟩).sq - 1).toNat, by have := HRC.2.1.1; omega⟩
      have hj8 : j < 8 := by have := HRC.2.1.2; omega
      have HJ : Hid ((hd ⟨bd, ms⟩).sq = (j : Int) + 1) := hj
      rw [hj] at HBL
      have HV20 : Hid ((hd ⟨bd, ms⟩).vw ≤ 20) := HRC.2.2.1.2
      generalize dOut bd = dd at HBL
      obtain ⟨vw, HVW⟩ : ∃ vw, Hid ((hd ⟨bd, ms⟩).vw = vw) := ⟨_, rfl⟩
      rw [HVW.out] at HBL HV0 HV20
      have HNX : Hid (stOf (cs.take (k + 1)) = stp (stOf (cs.take k)) ⟨bd, ms⟩ ∧ lastOf (cs.take (k + 1)) = max (lastOf (cs.take k)) (j + 1)) := by
        rw [HTK.out]
        refine ⟨stOf_snoc _ _, ?_⟩
        rw [lastOf_snoc, HJ.out]
        congr 1
      have HINV : Hid (Inv (stOf (cs.take k)) ∧ lastOf (cs.take k) ≤ 8 ∧ ∀ i, lastOf (cs.take k) ≤ i → stOf (cs.take k) i = (⟨#[]⟩, 0)) := ⟨hI, hL8, hLZ⟩
      obtain ⟨st, HST⟩ : ∃ st, Hid (stOf (cs.take k) = st) := ⟨_, rfl⟩
      obtain ⟨M, HMM⟩ : ∃ M, Hid (lastOf (cs.take k) = M) := ⟨_, rfl⟩
      rw [HST.out, HMM.out] at HZ HNX HINV
      clear hI hL8 hLZ HRC HM hpc hpk hj HTK HST HMM
      go_wp2_with fail
      refine (HBL.out _ (bel_new _ _)).mono ?_
      rintro e w2 ⟨rfl, b2⟩
      have X3 : Hid (Pin w (w2.alloc (.cells #[.int .i64 vw, .int .i64 ((j : Int) + 1), .string dd] 61)) v0 st M wr.heap.size w2.heap.size bd (.slice pa ms.length pcap) vw ((j : Int) + 1) dd) := by
        have hb2 : Below wr.heap.size wr w2 := (bel_new wr _).trans (b2.mono (bel_new wr _).size)
        have hbx := (b2.block wr.heap.size (by simp)).trans (heap_alloc_new wr _)
        exact ⟨HZ.out.below (hb2.alloc hb2.size _), (Below.heap_alloc w2 _ _ (Array.getElem?_eq_some_iff.1 hbx).1).trans hbx, heap_alloc_new w2 _⟩
      clear b2 HZ c0 c1
      go_upto_region 7 with fail
      obtain ⟨xb, HXB⟩ : ∃ xb, Hid (wr.heap.size = xb) := ⟨_, rfl⟩
      obtain ⟨yb, HYB⟩ : ∃ yb, Hid (w2.heap.size = yb) := ⟨_, rfl⟩
      rw [HXB.out, HYB.out] at X3
      rw [HXB.out, HYB.out]
      generalize w2.alloc (.cells #[.int .i64 vw, .int .i64 ((j : Int) + 1), .string dd] 61) = w3 at X3 ⊢
      clear HXB HYB HBL
      have hjn : (0 : Int) ≤ (j : Int) := by omega
      have hj8' : (j : Int) < 8 := by omega
      go_loopw [3] (fun b wr => ∃ (L : Nat) (ba : Option Addr) (bcap : Nat), b = .slice ba L bcap ∧ M ≤ L ∧ L ≤ max M (j + 1) ∧ Hid (Pin w wr b st L xb yb bd (.slice pa ms.length pcap) vw ((j : Int) + 1) dd)) (fun b _ => 9 - lenOf b)
      case atStart =>
        obtain ⟨ba, bcap, e⟩ := ownS_slice X3.out.ps.own
        rw [ents_len] at e
        exact ⟨M, ba, bcap, e, by omega, by omega, X3.out⟩
      case round =>
        obtain ⟨L, ba, bcap, rfl, hML, hLm, HP⟩ := hrel
        have y0 := (blk_cell HP.out.hy 0 (x := .int .i64 vw) rfl).1
        have y1 := (blk_cell HP.out.hy 1 (x := .int .i64 ((j : Int) + 1)) rfl).1
        have hM8 := HINV.out.2.1
        by_cases hLj : L < j + 1
        · have hlt1 : (L : Int) < (j : Int) + 1 := by omega
          have HN0 : Hid ((st L).2 = 0) := big_last HINV.out.2.2 hML
          have HSZ : Hid (w.heap.size + 1 ≤ wr.heap.size) := (Array.getElem?_eq_some_iff.1 HP.out.ps.ha).1
          have HEL : Hid ((ents st L).length ≤ 1000000) := by show _ ≤ _; rw [ents_len]; omega
          go_wp2_with (at_builtin; go_must (refine list_txq (by rfl) _ _ 45 (by rfl) i0 Tryz.underlying45 hi0 hz0 hz1 hz2 (w.heap.size + 1) wr _ (ents st L) nulB (by rfl) HP.out.ps.own HSZ.out (by rfl) HEL.out ?_; intro v7 w7 o7 b7 k7))
          have HP7 : Hid (Pin w w7 v7 st (L + 1) xb yb bd (.slice pa ms.length pcap) vw ((j : Int) + 1) dd) := HP.out.app HN0.out o7 b7 k7
          obtain ⟨va, vcap, hv7⟩ := ownS_slice HP7.out.ps.own
          rw [ents_len] at hv7
          subst hv7
          clear o7 b7 k7
          exact ⟨⟨L + 1, va, vcap, rfl, by omega, by omega, HP7.out⟩, by show 9 - (L + 1) < 9 - L; omega⟩
        · have hlt1 : ¬ (L : Int) < (j : Int) + 1 := by omega
          have HLL : Hid (L = max M (j + 1)) := by show _ = _; omega
          obtain ⟨X, hX, W, QI0, QO0⟩ := Qc.klass wr
          have QI : Hid (∀ w', Below wr.heap.size wr w' → ∃ x, w' = W x) := QI0
          have QO : Hid (∀ x, Below wr.heap.size wr (W x)) := QO0
          have QP : Hid (∀ x, Pin w (W x) (.slice ba L bcap) st L xb yb bd (.slice pa ms.length pcap) vw ((j : Int) + 1) dd) := fun x => HP.out.below (QO.out x)
          have z0 := fun x => (blk_cell (QP.out x).hy 0 (x := .int .i64 vw) rfl).1
          have z2 := fun x => (blk_cell (QP.out x).ps.ha j (abv_at st hj8)).1
          clear QI0 QO0
          go_upto_region 10 with fail
          by_cases hle : (st j).2 ≤ vw
          · have hle' : decide ((st j).2 ≤ vw) = true := decide_eq_true hle
            refine Qc.region_class (W := W) (by kernel_rfl) (by kernel_rfl) (QI.out _ Qc.from_drew) ?_
            repeat (go_big_quiet_step (fail))
            refine wpQuiet_nil ?_
            rintro _ ⟨xq, rfl⟩
            have HQ : Hid (Pin w (W xq) (.slice ba L bcap) st L xb yb bd (.slice pa ms.length pcap) vw ((j : Int) + 1) dd) := QP.out xq
            clear z0 z2 y0 y1 HP
            generalize W xq = wq at HQ ⊢
            obtain ⟨gp, rfl, hgp, _, d0, f0⟩ := ownS_at HQ.out.ps.own (ents_at st (show j < L by omega))
            obtain ⟨d1, f1⟩ := blk_cell HQ.out.ps.ha j (abv_at st hj8)
            have d2 := (blk_cell HQ.out.hx 0 (x := .string bd) rfl).1
            have d3 := (blk_cell HQ.out.hy 0 (x := .int .i64 vw) rfl).1
            have hjL : (j : Int) < (L : Int) := by omega
            have hv1 : -9223372036854775808 ≤ vw + 1 ∧ vw + 1 ≤ 9223372036854775807 := by have h1 := HV0.out; have h2 := HV20.out; omega
            have HF : Hid (Pst w ((wq.setCell ⟨gp, j, none⟩ (.string bd)).setCell ⟨w.heap.size, j, none⟩ (.int .i64 (vw + 1))) (.slice (some ⟨gp, 0, none⟩) L bcap) (stOf (cs.take (k + 1))) (lastOf (cs.take (k + 1)))) := by
              have hh : (st j).2 ≤ (hd ⟨bd, ms⟩).vw := by rw [HVW.out]; exact hle
              have e1 := ents_step (L := L) HJ.out (by rw [HVW.out]; exact HV0.out) hh
              have e2 := abv_step HJ.out hj8 hh
              rw [HNX.out.1, HNX.out.2, ← HLL.out]
              rw [HVW.out] at e2
              refine ⟨?_, ?_, ?_⟩
              · rw [e2]
                exact blk_set ((blk_far (by omega) _ _).trans HQ.out.ps.ha) j _
              · rw [e1]
                exact ownS_kept (ownS_set HQ.out.ps.own bd) fun g hg => blk_far (by simp [Value.ownBlock] at hg; omega) _ _
              · exact Below.setCell (Below.setCell HQ.out.ps.bel (p := ⟨gp, j, none⟩) (Nat.le_trans (Nat.le_succ _) hgp) _) (p := ⟨w.heap.size, j, none⟩) (Nat.le_refl _) _
            have hgy : gp ≠ yb := fun e => ownS_ne (by decide) HQ.out.ps.own HQ.out.hy (by rw [← e]; rfl)
            have hgx : gp ≠ xb := fun e => ownS_ne (by decide) HQ.out.ps.own HQ.out.hx (by rw [← e]; rfl)
            have hga : gp ≠ w.heap.size := by omega
            have e3 : (wq.setCell ⟨gp, j, none⟩ (.string bd)).cell? ⟨yb, 0, none⟩ = some (.int .i64 vw) := (World.cell?_of_block (a := ⟨yb, 0, none⟩) (blk_far (Ne.symm hgy) _ _)).trans d3
            have e1 : (wq.setCell ⟨gp, j, none⟩ (.string bd)).cell? ⟨w.heap.size, j, none⟩ = some (.int .i64 (st j).2) := (World.cell?_of_block (a := ⟨w.heap.size, j, none⟩) (blk_far (Ne.symm hga) _ _)).trans d1
            have g1 : (wq.setCell ⟨gp, j, none⟩ (.string bd)).frozen? ⟨w.heap.size, j, none⟩ = false := (blk_cell ((blk_far (Ne.symm hga) _ _).trans HQ.out.ps.ha) j (abv_at st hj8)).2
            have hjz : (0 : Int) ≤ (j : Int) + 1 := by omega
            clear HQ HP0 GK HR HRT HAT HCL HRC HINV HNX HLL X3 QI QO QP hle HJ HVW
            go_upto_region 11 with fail
            go_region_law (fail)
            all_goals try go_simp
            all_goals
              go_wp2_with fail
              exact ⟨⟨k + 1, by omega, by go_num, HF.out.below Qc.from_drew⟩, by simp [intOf]; omega⟩
          · have hle' : decide ((st j).2 ≤ vw) = false := decide_eq_false hle
            refine Qc.region_class (W := W) (by kernel_rfl) (by kernel_rfl) (QI.out _ Qc.from_drew) ?_
            repeat (go_big_quiet_step (fail))
            refine wpQuiet_nil ?_
            rintro _ ⟨xq, rfl⟩
            have HQ : Hid (Pst w (W xq) (.slice ba L bcap) (stOf (cs.take (k + 1))) (lastOf (cs.take (k + 1)))) := by
              have h1 := (QP.out xq).ps
              rw [HNX.out.1, HNX.out.2, ← HLL.out, stp_same HJ.out (by rw [HVW.out]; exact hle)]
              exact h1
            clear z0 z2 y0 y1 HP
            generalize W xq = wq at HQ ⊢
            go_wp2_with fail
            exact ⟨⟨k + 1, by omega, by go_num, HQ.out⟩, by simp [intOf]; omega⟩
    · obtain rfl : k = ps.length := by omega
      have HE : Hid (OwnS wr w.heap.size v0 (planL cs)) := by
        have h1 := HZ.out.own
        rw [← HCL.out, List.take_length] at h1
        exact ownS_mono h1 (Nat.le_succ _)
      go_wp2_with fail
      go_ret
      exact ⟨_, rfl, HE.out, HZ.out.bel⟩
end Go.Proofs.YtddmdnljfnimbaaGreatDoor.Pl

/- The plan of a quorum: PlanOf of the program. -/
namespace Go.Proofs.YtddmdnljfnimbaaGreatDoor.Pl
open Go.RowKit Go.Proofs.YtddmdnljfnimbaaGreatDoor.Sl Go.Proofs.YtddmdnljfnimbaaGreatDoor.By Go.Proofs.YtddmdnljfnimbaaGreatDoor.Ap Go.Proofs.YtddmdnljfnimbaaGreatDoor.Gm Go.Proofs.YtddmdnljfnimbaaGreatDoor.Sh Go.Proofs.YtddmdnljfnimbaaGreatDoor.Vt Go.Proofs.YtddmdnljfnimbaaGreatDoor.Tm Go.Proofs.YtddmdnljfnimbaaGreatDoor.Wc
open Go.Proofs.YtddmdnljfnimbaaGreatDoor.Tl (OwnS)
open Go.Proofs.YtddmdnljfnimbaaGreatDoor.Qm (qOut inB within_any)
open Go.Proofs.YtddmdnljfnimbaaGreatDoor.Rg (RowG RowG.slice RowG.at lt_at mem_at blk_cell blk_set blk_far bel_new)

/-- What PlanOf answers. -/
noncomputable def plC (n view : Int) (ms : List Mg) : Int := if 4096 < ms.length then 2 else if fCode n = 0 ∧ inB view 1 20 = true then (if (ms.length : Int) = qOut n then (if caB n view ms then 0 else 12) else 19) else 4
noncomputable def plL (n view : Int) (ms : List Mg) : List ByteArray := if plC n view ms = 0 then planL (caL ms) else []
theorem plL_no {n view : Int} {ms : List Mg} {c : Int} (h : plC n view ms = c) (h0 : c ≠ 0) : plL n view ms = [] := by unfold plL; rw [h, if_neg h0]
theorem ownS_nil (w : World) (B : Nat) : OwnS w B (.slice none 0 0) [] := World.ownsRow_nil _ _ _ _
theorem ca_right {n view : Int} {ms : List Mg} (h : caB n view ms = true) : ∀ c ∈ caL ms, Right c := fun c hc => by
  unfold caB at h
  rw [Bool.and_eq_true, List.all_eq_true] at h
  unfold caL at hc
  obtain ⟨x, hx, hc⟩ := List.mem_flatMap.1 hc
  exact crts_right (h.2 x hx) c hc
theorem ca_len : ∀ {ms : List Mg} {n view : Int}, ms.all (cfB n view) = true → (caL ms).length ≤ 8 * ms.length
  | [], _, _, _ => Nat.le_refl _
  | x :: ms, n, view, h => by
    rw [List.all_cons, Bool.and_eq_true] at h
    have h1 := crts_len h.1
    have h2 := ca_len h.2
    unfold caL at h2 ⊢
    rw [List.flatMap_cons, List.length_append, List.length_cons]
    omega
set_option maxRecDepth 100000 in
set_option maxHeartbeats 1600000 in
theorem implPlanOf_any (n view : Int) (v : Value) (ms : List Mg) (w : World) (h : Row w v ms) (hl : ms.length ≤ 1048576) (hb : ∀ x ∈ ms, x.bd.size ≤ 1048576) (hK : KTab w) (hp : 0 < w.heap.size) :
    Calls Tryz.prog 21 #[.int .i64 n, .int .i64 view, v] w fun e w' => ∃ u, e = .returned (.tuple #[u, .int .i64 (plC n view ms)]) ∧ OwnS w' w.heap.size u (plL n view ms) ∧ Below w.heap.size w w' := by
  have GK : Hid (∀ W, Below w.heap.size w W → KTab W ∧ 0 < W.heap.size) := fun W hW => ⟨hK.below hW hp, Nat.lt_of_lt_of_le hp hW.size⟩
  have HCA := certsOfAll_any n view v ms w h hl hb hK hp
  have HQ := Qm.implQuorumOf_any n w
  have HW := fun W => Bo.with_any view 1 20 W
  obtain ⟨a, cap, rfl⟩ := RowG.slice h
  have HPL : Hid (plL n view ms = if plC n view ms = 0 then planL (caL ms) else []) := rfl
  clear h hK hp hb
  by_cases h4 : (4096 : Int) < (ms.length : Int)
  · have HC : Hid (plC n view ms = 2) := by show _ = _; unfold plC; rw [if_pos (by omega)]
    have HN := plL_no HC.out (by decide)
    clear HCA HQ HW
    go_enter Tryz.func21, Tryz.ntmps21
    go_wp2_with fail
    go_ret2
    exact ⟨_, ret_vi HC.out.symm, by rw [HN]; exact ownS_nil _ _, Below.refl _ _⟩
  have h4n : ¬ 4096 < ms.length := by omega
  by_cases hf : fCode n = 0
  · rw [hf] at HQ
    cases hw : inB view 1 20 with
    | false =>
      have HC : Hid (plC n view ms = 4) := by show _ = _; unfold plC; rw [if_neg h4n, if_neg (by rw [hw]; simp)]
      have HN := plL_no HC.out (by decide)
      have HW2 : Hid (∀ W, Calls Tryz.prog 43 #[.int .i64 view, .int .i64 1, .int .i64 20] W fun e w' => e = .returned (.bool false) ∧ W = w') := fun W => by have := HW W; have e : Rq.inB view 1 20 = false := hw; rw [e] at this; exact this
      generalize qOut n = q at HQ
      clear HCA hw HW hf
      go_enter Tryz.func21, Tryz.ntmps21
      go_wp2_with fail
      refine HQ.mono ?_
      rintro e w1 ⟨rfl, rfl⟩
      go_wp2_with fail
      refine (HW2.out _).mono ?_
      rintro e w1 ⟨rfl, rfl⟩
      go_wp2_with fail
      go_ret2
      exact ⟨_, ret_vi HC.out.symm, by rw [HN]; exact ownS_nil _ _, Below.refl _ _⟩
    | true =>
      have HW2 : Hid (∀ W, Calls Tryz.prog 43 #[.int .i64 view, .int .i64 1, .int .i64 20] W fun e w' => e = .returned (.bool true) ∧ W = w') := fun W => by have := HW W; have e : Rq.inB view 1 20 = true := hw; rw [e] at this; exact this
      by_cases hlq : (ms.length : Int) = qOut n
      · have hlq' : ((ms.length : Int) != qOut n) = false := by simp [hlq]
        have HC0 : Hid (plC n view ms = if caB n view ms then 0 else 12) := by show _ = _; unfold plC; rw [if_neg h4n, if_pos ⟨hf, hw⟩, if_pos hlq]
        have HRT : Hid (caB n view ms = true → ∀ c ∈ caL ms, Right c) := ca_right
        have HLN : Hid (caB n view ms = true → (caL ms).length ≤ 1000) := fun hc => by
          unfold caB at hc
          rw [Bool.and_eq_true] at hc
          have h1 := ca_len hc.2
          have h2 := (q_pos hf).2
          omega
        generalize qOut n = q at HQ hlq'
        obtain ⟨o, HO⟩ : ∃ o, Hid (caB n view ms = o) := ⟨_, rfl⟩
        rw [HO.out] at HCA HC0 HRT HLN
        have HCA2 : Hid (Calls Tryz.prog 44 #[.int .i64 n, .int .i64 view, .slice a ms.length cap] w fun e w' => ∃ u, e = .returned (.tuple #[u, .bool o]) ∧ (o = true → ∃ ps, ps.map (·.1) = caL ms ∧ RdC w' w.heap.size u ps) ∧ Below w.heap.size w w') := HCA
        clear HCA hw HW hf hlq HO
        cases o with
        | false =>
          have HC : Hid (plC n view ms = 12) := HC0.out
          have HN := plL_no HC.out (by decide)
          go_enter Tryz.func21, Tryz.ntmps21
          go_wp2_with fail
          refine HQ.mono ?_
          rintro e w1 ⟨rfl, rfl⟩
          go_wp2_with fail
          refine (HW2.out _).mono ?_
          rintro e w1 ⟨rfl, rfl⟩
          go_wp2_with fail
          refine HCA2.out.mono ?_
          rintro e w1 ⟨u, rfl, -, b1⟩
          have B1 : Hid (Below w.heap.size w w1) := b1
          clear b1
          go_wp2_with fail
          go_ret2
          exact ⟨_, ret_vi HC.out.symm, by rw [HN]; exact ownS_nil _ _, B1.out⟩
        | true =>
          have HC : Hid (plC n view ms = 0) := HC0.out
          have HN : Hid (plL n view ms = planL (caL ms)) := by show _ = _; rw [HPL.out, HC.out]; rfl
          go_enter Tryz.func21, Tryz.ntmps21
          go_wp2_with fail
          refine HQ.mono ?_
          rintro e w1 ⟨rfl, rfl⟩
          go_wp2_with fail
          refine (HW2.out _).mono ?_
          rintro e w1 ⟨rfl, rfl⟩
          go_wp2_with fail
          refine HCA2.out.mono ?_
          rintro e w1 ⟨u, rfl, o1, b1⟩
          obtain ⟨ps, m1, r1⟩ := o1 trivial
          have HPF : Hid (Calls Tryz.prog 45 #[u] w1 fun e w' => ∃ u, e = .returned u ∧ OwnS w' w1.heap.size u (plL n view ms) ∧ Below w1.heap.size w1 w') := by
            have g := GK.out _ b1
            have := planFrom_any u ps w.heap.size w1 r1 (fun p hp => HRT.out trivial _ (by rw [← m1]; exact List.mem_map_of_mem hp)) (by have h1 := HLN.out trivial; rw [← m1, List.length_map] at h1; exact h1) g.1 g.2
            rw [m1, ← HN.out] at this
            exact this
          have B1 : Hid (Below w.heap.size w w1) := b1
          clear o1 m1 r1 b1
          go_wp2_with fail
          refine HPF.out.mono ?_
          rintro e w2 ⟨u2, rfl, o2, b2⟩
          have R2 : Hid (OwnS w2 w.heap.size u2 (plL n view ms) ∧ Below w.heap.size w w2) := ⟨ownS_mono o2 B1.out.size, B1.out.trans (b2.mono B1.out.size)⟩
          clear o2 b2
          go_wp2_with fail
          go_ret2
          exact ⟨_, ret_vi HC.out.symm, R2.out.1, R2.out.2⟩
      · have hlq' : ((ms.length : Int) != qOut n) = true := by simp [hlq]
        have HC : Hid (plC n view ms = 19) := by show _ = _; unfold plC; rw [if_neg h4n, if_pos ⟨hf, hw⟩, if_neg hlq]
        have HN := plL_no HC.out (by decide)
        generalize qOut n = q at HQ hlq'
        clear HCA hw HW hf hlq
        go_enter Tryz.func21, Tryz.ntmps21
        go_wp2_with fail
        refine HQ.mono ?_
        rintro e w1 ⟨rfl, rfl⟩
        go_wp2_with fail
        refine (HW2.out _).mono ?_
        rintro e w1 ⟨rfl, rfl⟩
        go_wp2_with fail
        go_ret2
        exact ⟨_, ret_vi HC.out.symm, by rw [HN]; exact ownS_nil _ _, Below.refl _ _⟩
  · have HC : Hid (plC n view ms = 4) := by show _ = _; unfold plC; rw [if_neg h4n, if_neg (fun h => hf h.1)]
    have HN := plL_no HC.out (by decide)
    have h4' := f_four hf
    rw [h4'] at HQ
    generalize qOut n = q at HQ
    clear HCA HW hf h4'
    go_enter Tryz.func21, Tryz.ntmps21
    go_wp2_with fail
    refine HQ.mono ?_
    rintro e w1 ⟨rfl, rfl⟩
    go_wp2_with fail
    go_ret2
    exact ⟨_, ret_vi HC.out.symm, by rw [HN]; exact ownS_nil _ _, Below.refl _ _⟩
end Go.Proofs.YtddmdnljfnimbaaGreatDoor.Pl
