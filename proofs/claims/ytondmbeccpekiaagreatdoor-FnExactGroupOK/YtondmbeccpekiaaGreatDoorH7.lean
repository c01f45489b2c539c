/- Texts put together: Za, Put, ReqPut. -/
import Derived.Test.YtondmbeccpekiaaGreatDoorH6
import Derived.Test.YtondmbeccpekiaaGreatDoorH0
import Derived.Test.YtondmbeccpekiaaGreatDoorRows
import Derived.Test.YtondmbeccpekiaaGreatDoorH2
import Derived.Deep.RegionLaw
import Derived.Deep.CutRange
import Derived.Deep.DeepCutAuto
import Derived.BigRegion
/- Groups, as they are handed over: replicas, a wire of parcels, what was sent. -/
namespace Go.Proofs.YtondmbeccpekiaaGreatDoor.Zg
open Go.RowKit Go.Proofs.YtondmbeccpekiaaGreatDoor.Rg Go.Proofs.YtondmbeccpekiaaGreatDoor.Gm Go.Proofs.YtondmbeccpekiaaGreatDoor.Ty Go.Proofs.YtondmbeccpekiaaGreatDoor.Yr

structure Pc where
  t : Int
  m : Mg
structure Gp where
  n : Int
  fa : List Int
  rs : List Rp
  wi : List Pc
  se : List Mg
instance : Inhabited Pc := ⟨⟨0, default⟩⟩
instance : Inhabited Rp := ⟨⟨0, 0, 0, false, [], [], [], []⟩⟩
def EI (w : World) (b o : Nat) (x : Int) : Prop := w.cell? ⟨b, o, none⟩ = some (.int .i64 x)
def RowN (w : World) (v : Value) (xs : List Int) : Prop := RowG 1 EI w v xs
def EP (w : World) (b o : Nat) (x : Pc) : Prop := w.cell? ⟨b, o, none⟩ = some (.int .i64 x.t) ∧ w.cell? ⟨b, o + 1, none⟩ = some (.int .i64 x.m.kd) ∧ w.cell? ⟨b, o + 2, none⟩ = some (.int .i64 x.m.vw) ∧ w.cell? ⟨b, o + 3, none⟩ = some (.int .i64 x.m.sq) ∧ w.cell? ⟨b, o + 4, none⟩ = some (.int .i64 x.m.fr) ∧ w.cell? ⟨b, o + 5, none⟩ = some (.string x.m.dg) ∧ w.cell? ⟨b, o + 6, none⟩ = some (.string x.m.bd) ∧ w.cell? ⟨b, o + 7, none⟩ = some (.string x.m.mc)
def RowP (w : World) (v : Value) (xs : List Pc) : Prop := RowG 8 EP w v xs
def ER (w : World) (b o : Nat) (x : Rp) : Prop := ∃ vs vc vl vh, w.cell? ⟨b, o, none⟩ = some (.int .i64 x.id) ∧ w.cell? ⟨b, o + 1, none⟩ = some (.int .i64 x.n) ∧ w.cell? ⟨b, o + 2, none⟩ = some (.int .i64 x.vw) ∧ w.cell? ⟨b, o + 3, none⟩ = some (.bool x.ac) ∧ w.cell? ⟨b, o + 4, none⟩ = some (vs) ∧ w.cell? ⟨b, o + 5, none⟩ = some (vc) ∧ w.cell? ⟨b, o + 6, none⟩ = some (vl) ∧ w.cell? ⟨b, o + 7, none⟩ = some (vh) ∧ RepR w x vs vc vl vh
def RowR (w : World) (v : Value) (xs : List Rp) : Prop := RowG 8 ER w v xs
theorem staysI : Stays EI := fun _ _ b _ _ hb hlt h => (hb.cell (p := ⟨b, _, none⟩) hlt).trans h
theorem staysP : Stays EP := fun _ _ b _ _ hb hlt ⟨h0, h1, h2, h3, h4, h5, h6, h7⟩ => ⟨(hb.cell (p := ⟨b, _, none⟩) hlt).trans h0, (hb.cell (p := ⟨b, _, none⟩) hlt).trans h1, (hb.cell (p := ⟨b, _, none⟩) hlt).trans h2, (hb.cell (p := ⟨b, _, none⟩) hlt).trans h3, (hb.cell (p := ⟨b, _, none⟩) hlt).trans h4, (hb.cell (p := ⟨b, _, none⟩) hlt).trans h5, (hb.cell (p := ⟨b, _, none⟩) hlt).trans h6, (hb.cell (p := ⟨b, _, none⟩) hlt).trans h7⟩
theorem staysR : Stays ER := fun _ _ b _ _ hb hlt ⟨vs, vc, vl, vh, h0, h1, h2, h3, h4, h5, h6, h7, h8⟩ => ⟨vs, vc, vl, vh, (hb.cell (p := ⟨b, _, none⟩) hlt).trans h0, (hb.cell (p := ⟨b, _, none⟩) hlt).trans h1, (hb.cell (p := ⟨b, _, none⟩) hlt).trans h2, (hb.cell (p := ⟨b, _, none⟩) hlt).trans h3, (hb.cell (p := ⟨b, _, none⟩) hlt).trans h4, (hb.cell (p := ⟨b, _, none⟩) hlt).trans h5, (hb.cell (p := ⟨b, _, none⟩) hlt).trans h6, (hb.cell (p := ⟨b, _, none⟩) hlt).trans h7, h8.below hb⟩
theorem RowN.below {w w' : World} {v : Value} {xs : List Int} (h : RowN w v xs) (hb : Below w.heap.size w w') : RowN w' v xs := RowG.below staysI h hb
theorem RowP.below {w w' : World} {v : Value} {xs : List Pc} (h : RowP w v xs) (hb : Below w.heap.size w w') : RowP w' v xs := RowG.below staysP h hb
theorem RowR.below {w w' : World} {v : Value} {xs : List Rp} (h : RowR w v xs) (hb : Below w.heap.size w w') : RowR w' v xs := RowG.below staysR h hb
def pcV (x : Pc) : Value := .agg #[.int .i64 x.t, .int .i64 x.m.kd, .int .i64 x.m.vw, .int .i64 x.m.sq, .int .i64 x.m.fr, .string x.m.dg, .string x.m.bd, .string x.m.mc]
def gpV (g : Gp) (vf vr vw vs : Value) : Value := .agg #[.int .i64 g.n, vf, vr, vw, vs]
structure GrpR (w : World) (g : Gp) (vf vr vw vs : Value) : Prop where
  f : RowN w vf g.fa
  r : RowR w vr g.rs
  p : RowP w vw g.wi
  s : Row w vs g.se
theorem GrpR.below {w w' : World} {g : Gp} {vf vr vw vs : Value} (h : GrpR w g vf vr vw vs) (hb : Below w.heap.size w w') : GrpR w' g vf vr vw vs := ⟨h.f.below hb, h.r.below hb, h.p.below hb, h.s.below hb⟩
structure Zq (m : Nat) (g : Gp) : Prop where
  f : g.fa.length ≤ m
  r : g.rs.length ≤ m
  rz : ∀ x ∈ g.rs, Zr m x
  p : g.wi.length ≤ m
  pz : ∀ x ∈ g.wi, Tz m x.m
  s : g.se.length ≤ m
  sz : ∀ x ∈ g.se, Tz m x
end Go.Proofs.YtondmbeccpekiaaGreatDoor.Zg
namespace Go.Proofs.YtondmbeccpekiaaGreatDoor.Op
open Go.ChangeShapes Go.WideShapes Go.ChangeAt Go.RowKit Go.Deep Go.Proofs.YtondmbeccpekiaaGreatDoor.Rg Go.Proofs.YtondmbeccpekiaaGreatDoor.Gm Go.Proofs.YtondmbeccpekiaaGreatDoor.Yr Go.Proofs.YtondmbeccpekiaaGreatDoor.Zg
section
variable {H : Type} {enc : TypeId × Value → H} {w : World} {base : Nat} {spare : Nat → Bool} {held : Bool}
theorem zk4 : Tryz.prog.cellsOf 95 = 7 := by kernel_rfl
theorem zk5 : Tryz.prog.cellsOf 90 = 1 := by kernel_rfl
theorem zk6 : Tryz.prog.cellsOf 91 = 1 := by kernel_rfl
theorem zk7 : Tryz.prog.cellsOf 38 = 1 := by kernel_rfl
set_option maxRecDepth 100000 in
theorem open_nodes {fuel : Nat} {cs : List Value} {y : DataW H × List MemPlace} (hf : DataW.trod enc Tryz.prog w base spare held fuel 22 cs = some y) :
    ∃ v xs, cs = [v] ∧ RowN w v xs ∧ xs.length ≤ maxLen ∧ ∀ x ∈ xs, (fun _ : Int => True) x := by
  refine open_rows Tryz.underlying22 (c := 1) (by kernel_rfl) (by decide) (fun n cs b o y hl hc ht => ?_) hf
  match cs, hl with
  | [v0], _ =>
    obtain ⟨z0, q0, _, _⟩ := DataW.trod_int Tryz.underlying3 ht
    simp at q0
    subst q0
    exact ⟨z0, cell_eq hc 0 (by decide) rfl, trivial⟩
set_option maxRecDepth 100000 in
theorem open_parcels {fuel : Nat} {cs : List Value} {y : DataW H × List MemPlace} (hf : DataW.trod enc Tryz.prog w base spare held fuel 24 cs = some y) :
    ∃ v xs, cs = [v] ∧ RowP w v xs ∧ xs.length ≤ maxLen ∧ ∀ x ∈ xs, Tz maxLen x.m := by
  refine open_rows Tryz.underlying24 (c := 8) (by kernel_rfl) (by decide) (fun n cs b o y hl hc ht => ?_) hf
  obtain ⟨xs, k, hk, _, _, hxl, hff⟩ := DataW.trod_struct Tryz.underlying97 ht
  match cs, hl with
  | [v0, v1, v2, v3, v4, v5, v6, v7], _ =>
    match xs, hxl with
    | [y0, y1], _ =>
      have g0 := hff 0 _ rfl
      have g1 := hff 1 _ rfl
      simp [yk1, zk4] at g0 g1
      obtain ⟨z0, q0, _, _⟩ := DataW.trod_int Tryz.underlying3 g0
      obtain ⟨xs', k', _, _, _, hxl', hff'⟩ := DataW.trod_struct Tryz.underlying95 g1
      match xs', hxl' with
      | [y0', y1', y2', y3', y4', y5', y6'], _ =>
        have g1 := hff' 0 _ rfl
        have g2 := hff' 1 _ rfl
        have g3 := hff' 2 _ rfl
        have g4 := hff' 3 _ rfl
        have g5 := hff' 4 _ rfl
        have g6 := hff' 5 _ rfl
        have g7 := hff' 6 _ rfl
        simp [yk1, yk2] at g1 g2 g3 g4 g5 g6 g7
        obtain ⟨z1, q1, _, _⟩ := DataW.trod_int Tryz.underlying3 g1
        obtain ⟨z2, q2, _, _⟩ := DataW.trod_int Tryz.underlying3 g2
        obtain ⟨z3, q3, _, _⟩ := DataW.trod_int Tryz.underlying3 g3
        obtain ⟨z4, q4, _, _⟩ := DataW.trod_int Tryz.underlying3 g4
        obtain ⟨z5, q5, _, m5⟩ := DataW.trod_string Tryz.underlying9 g5
        obtain ⟨z6, q6, _, m6⟩ := DataW.trod_string Tryz.underlying9 g6
        obtain ⟨z7, q7, _, m7⟩ := DataW.trod_string Tryz.underlying9 g7
        simp at q0 q1 q2 q3 q4 q5 q6 q7
        subst q0 q1 q2 q3 q4 q5 q6 q7
        exact ⟨⟨z0, ⟨z1, z2, z3, z4, z5, z6, z7⟩⟩, ⟨cell_eq hc 0 (by decide) rfl, cell_eq hc 1 (by decide) rfl, cell_eq hc 2 (by decide) rfl, cell_eq hc 3 (by decide) rfl, cell_eq hc 4 (by decide) rfl, cell_eq hc 5 (by decide) rfl, cell_eq hc 6 (by decide) rfl, cell_eq hc 7 (by decide) rfl⟩, m5, m6, m7⟩
set_option maxRecDepth 100000 in
theorem open_reps {fuel : Nat} {cs : List Value} {y : DataW H × List MemPlace} (hf : DataW.trod enc Tryz.prog w base spare held fuel 23 cs = some y) :
    ∃ v xs, cs = [v] ∧ RowR w v xs ∧ xs.length ≤ maxLen ∧ ∀ x ∈ xs, Zr maxLen x := by
  refine open_rows Tryz.underlying23 (c := 8) (by kernel_rfl) (by decide) (fun n cs b o y hl hc ht => ?_) hf
  obtain ⟨xs, k, hk, _, _, hxl, hff⟩ := DataW.trod_struct Tryz.underlying93 ht
  match cs, hl with
  | [v0, v1, v2, v3, v4, v5, v6, v7], _ =>
    match xs, hxl with
    | [y0, y1, y2, y3, y4, y5, y6, y7], _ =>
      have g0 := hff 0 _ rfl
      have g1 := hff 1 _ rfl
      have g2 := hff 2 _ rfl
      have g3 := hff 3 _ rfl
      have g4 := hff 4 _ rfl
      have g5 := hff 5 _ rfl
      have g6 := hff 6 _ rfl
      have g7 := hff 7 _ rfl
      simp [yk1, yk3, yk4, zk5, zk6, zk7] at g0 g1 g2 g3 g4 g5 g6 g7
      obtain ⟨a0, q0, _, _⟩ := DataW.trod_int Tryz.underlying3 g0
      obtain ⟨a1, q1, _, _⟩ := DataW.trod_int Tryz.underlying3 g1
      obtain ⟨a2, q2, _, _⟩ := DataW.trod_int Tryz.underlying3 g2
      obtain ⟨a3, q3, _⟩ := DataW.trod_bool Tryz.underlying4 g3
      obtain ⟨u4, ss, q4, r4, l4, t4⟩ := open_slots g4
      obtain ⟨u5, cc, q5, r5, l5, t5⟩ := open_certs g5
      obtain ⟨u6, lg, q6, r6, l6, t6⟩ := open_logs g6
      obtain ⟨u7, ch, q7, r7, l7, t7⟩ := openGm g7
      simp at q0 q1 q2 q3 q4 q5 q6 q7
      subst q0 q1 q2 q3 q4 q5 q6 q7
      exact ⟨⟨a0, a1, a2, a3, ss, cc, lg, ch⟩, ⟨_, _, _, _, cell_eq hc 0 (by decide) rfl, cell_eq hc 1 (by decide) rfl, cell_eq hc 2 (by decide) rfl, cell_eq hc 3 (by decide) rfl, cell_eq hc 4 (by decide) rfl, cell_eq hc 5 (by decide) rfl, cell_eq hc 6 (by decide) rfl, cell_eq hc 7 (by decide) rfl, ⟨r4, r5, rowT_of r6, r7⟩⟩, ⟨l4, t4, l5, t5, l6, t6, l7, t7⟩⟩
set_option maxRecDepth 100000 in
theorem open_group {r : Reach} {b0 : Nat} {v : Value} {d : DataW H} {p : List MemPlace}
    (hv : Value.okWide Tryz.prog w r b0 27 v) (h : DataW.Trod enc Tryz.prog w base spare held 27 v d p) :
    ∃ (g : Gp) (vf vr vw vs : Value), v = gpV g vf vr vw vs ∧ GrpR w g vf vr vw vs ∧ Zq maxLen g := by
  obtain ⟨cs, rfl, hsz, hf⟩ := open_cells Tryz.underlying27 (by kernel_rfl) hv h
  have hsz5 : cs.size = 5 := hsz.trans (by kernel_rfl)
  obtain ⟨l⟩ := cs
  match l, hsz5 with
  | [c0, c1, c2, c3, c4], _ =>
    obtain ⟨a0, rfl, _⟩ := cell_int Tryz.underlying3 (hf 0 _ _ rfl rfl)
    obtain ⟨n1, y1, h1⟩ := hf 1 _ _ rfl rfl
    obtain ⟨n2, y2, h2⟩ := hf 2 _ _ rfl rfl
    obtain ⟨n3, y3, h3⟩ := hf 3 _ _ rfl rfl
    obtain ⟨n4, y4, h4⟩ := hf 4 _ _ rfl rfl
    obtain ⟨v1, fa, e1, r1, l1, _⟩ := open_nodes h1
    obtain ⟨v2, rs, e2, r2, l2, t2⟩ := open_reps h2
    obtain ⟨v3, wi, e3, r3, l3, t3⟩ := open_parcels h3
    obtain ⟨v4, se, e4, r4, l4, t4⟩ := openGm h4
    cases e1
    cases e2
    cases e3
    cases e4
    exact ⟨⟨a0, fa, rs, wi, se⟩, _, _, _, _, rfl, ⟨r1, r2, r3, r4⟩, ⟨l1, l2, t2, l3, t3, l4, t4⟩⟩
end
end Go.Proofs.YtondmbeccpekiaaGreatDoor.Op

/- Bytes that are told: numbers, texts. -/
namespace Go.Proofs.YtondmbeccpekiaaGreatDoor.Pu
open Go.RowKit Go.Proofs.YtondmbeccpekiaaGreatDoor.Sl Go.Proofs.YtondmbeccpekiaaGreatDoor.By Go.Proofs.YtondmbeccpekiaaGreatDoor.Ap

def nb (v : Int) (at' : Nat) : Int := v / 2 ^ (8 * at') % 256
def nums (v : Int) (size k : Nat) : List Int := (List.range k).map fun j => nb v (size - 1 - j)
theorem nums_succ (v : Int) (size k : Nat) : nums v size (k + 1) = nums v size k ++ [nb v (size - 1 - k)] := by simp [nums, List.range_succ]
theorem nums_length (v : Int) (size k : Nat) : (nums v size k).length = k := by simp [nums]

theorem nb_range (v : Int) (k : Nat) : 0 ≤ nb v k ∧ nb v k ≤ 255 := by unfold nb; omega
theorem nums_range (v : Int) (size k : Nat) : ∀ z ∈ nums v size k, 0 ≤ z ∧ z ≤ 255 := by
  intro z hz
  unfold nums at hz
  obtain ⟨j, _, rfl⟩ := List.mem_map.1 hz
  exact nb_range _ _
set_option maxHeartbeats 400000 in
theorem putNumber_any (v : Value) (zs : List Int) (x : Int) (size : Nat) (B : Nat) (w : World) (hown : OwnB 5 w B v zs) (hB : B ≤ w.heap.size) (hs : size ≤ 4) (hlen : zs.length ≤ 1048576) :
    Calls Tryz.prog 127 #[v, .int .i64 x, .int .i64 size] w fun e w' => ∃ v', e = .returned v' ∧ OwnB 5 w' B v' (zs ++ nums x size size) ∧ Kp w w' v v' := by
  obtain ⟨i0, hi, hz0, hz1, hz2⟩ := info_parts Sl.info5
  have hs0 : (size : Int) ≤ 4 := by omega
  have HS : Hid (size ≤ 4) := hs
  have HL : Hid (zs.length ≤ 1048576) := hlen
  clear hs hlen
  go_enter Tryz.func127, Tryz.ntmps127
  go_wp2_with fail
  go_loopw [0, 7] (fun b i wr => ∃ (k : Nat) (q : Int), Hid ((k : Int) + q + 1 = size ∧ k ≤ size) ∧ -1 ≤ q ∧ q ≤ 3 ∧ i = .int .i64 q ∧ OwnB 5 wr B b (zs ++ nums x size k) ∧ Kp w wr v b) (fun _ i _ => (intOf i + 1).toNat)
  case atStart => exact ⟨0, (size : Int) - 1, ⟨by omega, by omega⟩, by omega, by omega, by go_num, by simpa [nums] using hown, Kp.refl _ _⟩
  case round =>
    clear hown hs0
    obtain ⟨k, q, HQ, hq0, hq1, rfl, hown, hkp⟩ := hrel
    have hB' : B ≤ wr.heap.size := Nat.le_trans hB hkp.size
    by_cases hlt : 0 ≤ q
    · have hl : (zs ++ nums x size k).length + 1 ≤ 140737488355328 := by rw [List.length_append, nums_length]; have := HQ.out; have := HL.out; have := HS.out; omega
      go_wp2_with (at_builtin; go_must (refine list_one (by rfl) _ _ 107 (by rfl) Tryz.underlying107 hi hz0 hz1 hz2 B _ _ _ _ (by rfl) (by rfl) hown hB' (by omega) hl ?_; intro v' w' hown' hkp'))
      have e : x / 2 ^ (8 * q).toNat % 256 = nb x (size - 1 - k) := by
        unfold nb
        rw [show (8 * q).toNat = 8 * (size - 1 - k) by have := HQ.out; omega]
      rw [e, List.append_assoc, ← nums_succ] at hown'
      exact ⟨⟨k + 1, q - 1, ⟨by have := HQ.out; omega, by have := HQ.out; omega⟩, by omega, by omega, rfl, hown', hkp.trans hkp'⟩, by simp [intOf]; omega⟩
    · have hk : k = size := by have := HQ.out; omega
      have HK : Hid (k = size) := hk
      clear hk
      go_wp2
      go_ret
      exact ⟨_, rfl, by rw [HK.out] at hown; exact hown, hkp⟩

set_option maxHeartbeats 400000 in
theorem putText_any (v : Value) (zs : List Int) (s : ByteArray) (size : Nat) (B : Nat) (w : World) (hown : OwnB 5 w B v zs) (hB : B ≤ w.heap.size) (hs : size ≤ 4) (hlen : zs.length ≤ 1048000) (hl2 : s.size ≤ 1048576) :
    Calls Tryz.prog 128 #[v, .string s, .int .i64 size] w fun e w' => ∃ v', e = .returned v' ∧ OwnB 5 w' B v' (zs ++ nums (s.size : Int) size size ++ bys s) ∧ Kp w w' v v' := by
  obtain ⟨i0, hi, hz0, hz1, hz2⟩ := info_parts Sl.info5
  have hl : ∀ q : List Int, q.length = zs.length + size → q.length + s.size ≤ 140737488355328 := by omega
  have HN : Hid ((zs ++ nums (s.size : Int) size size).length = zs.length + size) := by show _ = _; rw [List.length_append, nums_length]
  have HL : Hid (_) := hl
  have HO : Hid (OwnB 5 w B v zs) := hown
  clear hl hown
  go_enter Tryz.func128, Tryz.ntmps128
  go_wp2_with fail
  refine (putNumber_any v zs _ size B _ HO.out hB hs (by omega)).mono ?_
  rintro e w1 ⟨v1, rfl, o1, k1⟩
  have B1 : B ≤ w1.heap.size := Nat.le_trans hB k1.size
  go_wp2_with (at_builtin; go_must (refine list_str (by rfl) _ _ 107 9 (by rfl) Tryz.underlying107 Tryz.underlying9 hi hz0 hz1 hz2 B _ _ s _ (by rfl) (by rfl) o1 B1 (HL.out _ HN.out) ?_; intro v2 w2 o2 k2))
  go_ret
  exact ⟨_, rfl, o2, k1.trans k2⟩

set_option maxHeartbeats 400000 in
theorem l02Number_any (x : Int) (size : Nat) (w : World) (hs : size ≤ 4) :
    Calls Tryz.prog 98 #[.int .i64 x, .int .i64 size] w fun e w' => ∃ v', e = .returned v' ∧ OwnB 5 w' w.heap.size v' (nums x size size) ∧ Below w.heap.size w w' := by
  obtain ⟨i0, hi, hz0, hz1, hz2⟩ := info_parts Sl.info5
  have hs0 : (size : Int) ≤ 4 := by omega
  have HS : Hid (size ≤ 4) := hs
  clear hs
  go_enter Tryz.func98, Tryz.ntmps98
  go_wp2_with fail
  go_loopw [5, 6] (fun b i wr => ∃ (k : Nat) (q : Int), Hid ((k : Int) + q + 1 = size ∧ k ≤ size) ∧ -1 ≤ q ∧ q ≤ 3 ∧ i = .int .i64 q ∧ OwnB 5 wr w.heap.size b (nums x size k) ∧ Below w.heap.size w wr) (fun _ i _ => (intOf i + 1).toNat)
  case atStart => exact ⟨0, (size : Int) - 1, ⟨by omega, by omega⟩, by omega, by omega, by go_num, own_made 5 w w.heap.size #[] 0 (Nat.le_refl _) (by simp [maxLen]) rfl, (Below.refl _ _).alloc (Nat.le_refl _) _⟩
  case round =>
    clear hs0
    obtain ⟨k, q, HQ, hq0, hq1, rfl, hown, hbel⟩ := hrel
    by_cases hlt : 0 ≤ q
    · have hl : (nums x size k).length + 1 ≤ 140737488355328 := by rw [nums_length]; have := HQ.out; have := HS.out; omega
      have hB := hbel.size
      go_wp2_with (at_builtin; go_must (refine By.wpList_append_byte (by rfl) _ _ 107 (by rfl) 5 i0 Tryz.underlying107 hi hz0 hz1 hz2 w.heap.size w _ _ _ _ (by rfl) hown hbel hB (by rfl) hl ?_; intro v' w' hown' hbel' hB'))
      have e : x / 2 ^ (8 * q).toNat % 256 = nb x (size - 1 - k) := by
        unfold nb
        rw [show (8 * q).toNat = 8 * (size - 1 - k) by have := HQ.out; omega]
      rw [e, ← nums_succ] at hown'
      exact ⟨⟨k + 1, q - 1, ⟨by have := HQ.out; omega, by have := HQ.out; omega⟩, by omega, by omega, rfl, hown', hbel'⟩, by simp [intOf]; omega⟩
    · have hk : k = size := by have := HQ.out; omega
      have HK : Hid (k = size) := hk
      clear hk
      go_wp2
      go_ret
      exact ⟨_, rfl, by rw [HK.out] at hown; exact hown, hbel⟩
end Go.Proofs.YtondmbeccpekiaaGreatDoor.Pu

/- Requests' bytes: both RequestBytes functions. -/
namespace Go.Proofs.YtondmbeccpekiaaGreatDoor.Rp
open Go.RowKit Go.Proofs.YtondmbeccpekiaaGreatDoor.Sl Go.Proofs.YtondmbeccpekiaaGreatDoor.By Go.Proofs.YtondmbeccpekiaaGreatDoor.Rq Go.Proofs.YtondmbeccpekiaaGreatDoor.Ap Go.Proofs.YtondmbeccpekiaaGreatDoor.Pu

def reqBs (c st k l : Int) (n : ByteArray) : List Int := nums c 1 1 ++ (nums st 2 2 ++ (nums k 1 1 ++ (nums l 2 2 ++ (nums (n.size : Int) 1 1 ++ bys n))))
theorem reqBs_length (c st k l : Int) (n : ByteArray) : (reqBs c st k l n).length = 7 + n.size := by unfold reqBs; simp only [List.length_append, nums_length, bys_length]; omega
theorem ret_tup {v : Value} {a b : Int} (h : a = b) : Ending.returned (.tuple #[v, .int .i64 a]) = .returned (.tuple #[v, .int .i64 b]) := by rw [h]
theorem req_small {c st k l : Int} {n : ByteArray} (h : reqB c st k l n = true) : n.size ≤ 12 := by
  unfold reqB opB at h
  simp at h
  exact h.2.2.2.1

end Go.Proofs.YtondmbeccpekiaaGreatDoor.Rp
