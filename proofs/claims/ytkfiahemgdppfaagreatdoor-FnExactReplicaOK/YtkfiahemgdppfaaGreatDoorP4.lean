/- Texts put together: Txs, Ya, Put. -/
import Derived.Test.YtkfiahemgdppfaaGreatDoorP0
import Derived.Test.YtkfiahemgdppfaaGreatDoorP2
import Derived.Test.YtkfiahemgdppfaaGreatDoorP3
import Derived.Laws.MakeOwn
import Derived.Laws.NewBlocks
import Derived.Deep.QuietTactic
import Derived.BigQuiet
import Derived.Test.YtkfiahemgdppfaaGreatDoorP1
import Derived.Test.YtkfiahemgdppfaaGreatDoorRows
/- Texts in a slice: read, copied, compared. -/
namespace Go.Proofs.YtkfiahemgdppfaaGreatDoor.Ty
open Go.RowKit Go.Proofs.YtkfiahemgdppfaaGreatDoor.Sl Go.Proofs.YtkfiahemgdppfaaGreatDoor.By Go.Proofs.YtkfiahemgdppfaaGreatDoor.Ap Go.Proofs.YtkfiahemgdppfaaGreatDoor.Rq Go.Proofs.YtkfiahemgdppfaaGreatDoor.Rr

def tnth (ts : List ByteArray) (i : Nat) : ByteArray := ts.getD i ⟨#[]⟩
/-- The slice v holds the texts ts. -/
def RowT (w : World) (v : Value) (ts : List ByteArray) : Prop :=
  ∃ a cap, v = .slice a ts.length cap ∧ (ts = [] ∨ ∃ b off, a = some ⟨b, off, none⟩ ∧ ts.length ≤ cap ∧ b < w.heap.size ∧ ∀ i, i < ts.length → w.cell? ⟨b, off + i, none⟩ = some (.string (tnth ts i)))
theorem RowT.below {w w' : World} {v : Value} {ts : List ByteArray} (h : RowT w v ts) (hb : Below w.heap.size w w') : RowT w' v ts := by
  obtain ⟨a, cap, rfl, h⟩ := h
  refine ⟨a, cap, rfl, ?_⟩
  rcases h with h | ⟨b, off, rfl, hc, hlt, h⟩
  · exact .inl h
  · exact .inr ⟨b, off, rfl, hc, Nat.lt_of_lt_of_le hlt hb.size, fun i hi => (hb.cell (p := ⟨b, off + i, none⟩) hlt).trans (h i hi)⟩
/-- Texts whose sizes add up. -/
def szT (ts : List ByteArray) (k : Nat) : Nat := ((ts.take k).map ByteArray.size).sum
theorem szT_succ (ts : List ByteArray) (k : Nat) (h : k < ts.length) : szT ts (k + 1) = szT ts k + (tnth ts k).size := by
  unfold szT tnth
  rw [List.take_add_one, List.getElem?_eq_getElem h, Option.toList_some, List.map_append, List.sum_append, List.getD_eq_getElem?_getD, List.getElem?_eq_getElem h]
  simp only [List.map_cons, List.map_nil, List.sum_cons, List.sum_nil, Option.getD_some, Nat.add_zero]
theorem szT_mono (ts : List ByteArray) {a b : Nat} (h : a ≤ b) : szT ts a ≤ szT ts b := by
  induction b with
  | zero => have : a = 0 := by omega
            subst this; exact Nat.le_refl _
  | succ b ih =>
    by_cases e : a = b + 1
    · subst e; exact Nat.le_refl _
    · have := ih (by omega)
      by_cases hb : b < ts.length
      · rw [szT_succ ts b hb]; omega
      · have e1 : szT ts (b + 1) = szT ts b := by unfold szT; rw [List.take_of_length_le (by omega), List.take_of_length_le (by omega)]
        rw [e1]; exact this
/-- The budget of a list of texts. -/
def big (ts : List ByteArray) : Bool := decide (1048576 < ts.length + szT ts ts.length)

set_option maxHeartbeats 400000 in
theorem szStringS_any (v : Value) (ts : List ByteArray) (w : World) (h : RowT w v ts) (hl : ts.length ≤ maxLen) (hs : ∀ t ∈ ts, t.size ≤ maxLen) :
    Calls Tryz.prog 31 #[v, .int .i64 1048576] w fun e w' => (∃ m : Int, e = .returned (.int .i64 m) ∧ (m < 0 ↔ big ts = true)) ∧ w' = w := by
  obtain ⟨a, cap, rfl, h⟩ := h
  unfold maxLen at hl
  by_cases h0 : 1048576 < ts.length
  · have h0' : (1048576 : Int) < (ts.length : Int) := by omega
    have HB : Hid (big ts = true) := by show _ = _; unfold big; rw [decide_eq_true_eq]; omega
    go_enter Tryz.func31, Tryz.ntmps31
    go_wp2
    go_ret
    exact ⟨⟨-1, rfl, by rw [HB.out]; simp⟩, rfl⟩
  have h0' : (ts.length : Int) ≤ 1048576 := by omega
  have HT : Hid (∀ i, i < ts.length → (tnth ts i).size ≤ maxLen) := fun i hi => hs _ (by unfold tnth; rw [List.getD_eq_getElem?_getD, List.getElem?_eq_getElem hi]; exact List.getElem_mem hi)
  clear hs hl
  go_enter Tryz.func31, Tryz.ntmps31
  go_wp2_with fail
  go_loop [1, 5] (fun m i => ∃ k : Nat, k ≤ ts.length ∧ i = .int .i64 k ∧ m = .int .i64 (1048576 - (ts.length : Int) - (szT ts k : Int)) ∧ ts.length + szT ts k ≤ 1048576) (fun _ i => ts.length - (intOf i).toNat)
  case atStart => exact ⟨0, by omega, rfl, by simp [szT], by simp [szT]; omega⟩
  case round =>
    obtain ⟨k, hk, rfl, rfl, hle⟩ := hrel
    by_cases hlt : k < ts.length
    · rcases h with h | ⟨b, off, rfl, hc, hb, hcell⟩
      · exact absurd hlt (by rw [h]; simp)
      have hc1 := hcell k hlt
      have hm := HT.out k hlt
      unfold maxLen at hm
      have HS : Hid (szT ts (k + 1) = szT ts k + (tnth ts k).size) := szT_succ ts k hlt
      have HM : Hid (szT ts (k + 1) ≤ szT ts ts.length) := szT_mono ts hlt
      generalize szT ts k = q at hle HS
      generalize tnth ts k = t at hc1 hm HS
      clear hcell
      by_cases hbig : 1048576 < ts.length + q + t.size
      · have hbig' : (1048576 : Int) - (ts.length : Int) - (q : Int) - (t.size : Int) < 0 := by omega
        have HB : Hid (big ts = true) := by show _ = _; unfold big; rw [decide_eq_true_eq]; have := HS.out; have := HM.out; omega
        go_wp2
        go_ret
        exact ⟨⟨-1, rfl, by rw [HB.out]; simp⟩, rfl⟩
      · have hbig' : ¬ (1048576 : Int) - (ts.length : Int) - (q : Int) - (t.size : Int) < 0 := by omega
        go_wp2
        go_round
        case rel => exact ⟨k + 1, by omega, by go_num, val_eq (by rw [HS.out]; omega), by rw [HS.out]; omega⟩
        case measure => simp [intOf]; omega
    · obtain rfl : k = ts.length := by omega
      have HB : Hid (big ts = false) := by show _ = _; unfold big; rw [decide_eq_false_iff_not]; omega
      go_wp2
      go_ret
      exact ⟨⟨_, rfl, by rw [HB.out]; simp; omega⟩, rfl⟩

theorem info9 : (Tryz.prog.info? 9).map (fun i => (i.zero, i.size, i.bytes)) = some (some (.string ⟨#[]⟩), 1, 16) := by kernel_rfl
/-- A slice of texts in a block of its own, behind B. -/
def OwnT (w : World) (B : Nat) (v : Value) (ts : List ByteArray) : Prop :=
  ∃ g A, v = .slice (some ⟨g, 0, none⟩) ts.length ts.length ∧ B ≤ g ∧ w.heap[g]? = some (.cells A 9 (0, 0)) ∧ A.size = ts.length ∧ ∀ j, j < ts.length → A[j]? = some (.string (tnth ts j))
theorem OwnT.row {w : World} {B : Nat} {v : Value} {ts : List ByteArray} (h : OwnT w B v ts) : RowT w v ts := by
  obtain ⟨g, A, rfl, hB, hg, hs, hA⟩ := h
  refine ⟨_, _, rfl, .inr ⟨g, 0, rfl, Nat.le_refl _, (Array.getElem?_eq_some_iff.1 hg).1, fun i hi => ?_⟩⟩
  rw [Nat.zero_add, Joins.cell_of_block hg i]
  exact hA i hi
theorem OwnT.below {w w' : World} {B : Nat} {v : Value} {ts : List ByteArray} (h : OwnT w B v ts) (hb : Below w.heap.size w w') : OwnT w' B v ts := by
  obtain ⟨g, A, rfl, hB, hg, hs, hA⟩ := h
  exact ⟨g, A, rfl, hB, (hb.block g (Array.getElem?_eq_some_iff.1 hg).1).trans hg, hs, hA⟩

def Copied (ts : List ByteArray) (k : Nat) (A : Array Value) : Prop := A.size = ts.length ∧ ∀ j, j < k → A[j]? = some (.string (tnth ts j))
set_option maxHeartbeats 400000 in
theorem toStringS_any (v : Value) (ts : List ByteArray) (w : World) (h : RowT w v ts) (hl : ts.length ≤ 1048576) :
    Calls Tryz.prog 39 #[v] w fun e w' => ∃ v', e = .returned v' ∧ OwnT w' w.heap.size v' ts ∧ Below w.heap.size w w' := by
  obtain ⟨a, cap, rfl, h⟩ := h
  obtain ⟨i0, hi, hz0, hz1, hz2⟩ := info_parts info9
  have hmk := run_make (P := Tryz.prog) w 28 9 i0 (.string ⟨#[]⟩) Tryz.underlying28 hi hz0 .i64 .i64 (ts.length : Int) (ts.length : Int) (by omega) (by omega) (by rw [hz2]; omega) (by omega)
  have hA0 : Copied ts 0 (madeCells (Value.string ⟨#[]⟩).cells ((ts.length : Int).toNat * i0.size)) := ⟨by rw [hz1]; simp [madeCells, Value.cells], fun j hj => absurd hj (by omega)⟩
  generalize madeCells (Value.string ⟨#[]⟩).cells ((ts.length : Int).toNat * i0.size) = A0 at hmk hA0
  rw [Int.toNat_natCast] at hmk
  go_enter Tryz.func39, Tryz.ntmps39
  go_wp2_with fail
  clear hmk
  go_loopw [4] (fun i wr => ∃ k : Nat, ∃ A : Array Value, k ≤ ts.length ∧ i = .int .i64 k ∧ wr = w.alloc (.cells A 9) ∧ Copied ts k A) (fun i _ => ts.length - (intOf i).toNat)
  case atStart => exact ⟨0, A0, by omega, rfl, rfl, hA0⟩
  case round =>
    clear hA0
    obtain ⟨k, A, hk, rfl, rfl, hA⟩ := hrel
    by_cases hlt : k < ts.length
    · rcases h with h | ⟨b, off, rfl, hc, hb, hcell⟩
      · exact absurd hlt (by rw [h]; simp)
      have hc1 := hcell k hlt
      have hne : b ≠ w.heap.size := by omega
      obtain ⟨x, hx⟩ : ∃ x, A[k]? = some x := ⟨_, Array.getElem?_eq_getElem (by rw [hA.1]; exact hlt)⟩
      clear hcell
      have hA' : Copied ts (k + 1) (A.setIfInBounds k (.string (tnth ts k))) := by
        refine ⟨by rw [Array.size_setIfInBounds]; exact hA.1, fun j hj => ?_⟩
        rw [Array.getElem?_setIfInBounds]
        by_cases e : k = j
        · subst e
          rw [if_pos rfl, if_pos (by rw [hA.1]; exact hlt)]
        · rw [if_neg e]
          exact hA.2 j (by omega)
      go_wp2
      go_roundw
      case rel => exact ⟨k + 1, _, by omega, by go_num, rfl, hA'⟩
      case measure => simp [intOf]; omega
    · obtain rfl : k = ts.length := by omega
      go_wp2
      go_ret
      exact ⟨_, rfl, ⟨w.heap.size, A, rfl, Nat.le_refl _, blk_new _ _ _, hA.1, hA.2⟩, (Below.refl _ _).alloc (Nat.le_refl _) _⟩

set_option maxHeartbeats 400000 in
theorem eqStringS_same (v u : Value) (ts : List ByteArray) (w : World) (h : RowT w v ts) (g : RowT w u ts) (hl : ts.length ≤ 1048576) :
    Calls Tryz.prog 48 #[v, u] w fun e w' => e = .returned (.bool true) ∧ Below w.heap.size w w' := by
  obtain ⟨a, cap, rfl, h⟩ := h
  obtain ⟨a', cap', rfl, g⟩ := g
  have hne : ((ts.length : Int) != (ts.length : Int)) = false := by simp
  go_enter Tryz.func48, Tryz.ntmps48
  go_wp2_with fail
  go_loopw [5] (fun i wr => ∃ k : Nat, k ≤ ts.length ∧ i = .int .i64 k ∧ ∃ n, wr = w.drewN n) (fun i _ => ts.length - (intOf i).toNat)
  case atStart => exact ⟨0, by omega, rfl, 0, rfl⟩
  case round =>
    obtain ⟨k, hk, rfl, n, rfl⟩ := hrel
    by_cases hlt : k < ts.length
    · rcases h with h | ⟨b, off, rfl, hc, hb, hcell⟩
      · exact absurd hlt (by rw [h]; simp)
      rcases g with g | ⟨b', off', rfl, hc', hb', gcell⟩
      · exact absurd hlt (by rw [g]; simp)
      have hc1 := hcell k hlt
      have hc2 := gcell k hlt
      have hp0 : (0 : Int) ≤ (k : Int) := by omega
      have hp1 : (k : Int) < (ts.length : Int) := by omega
      clear hcell gcell
      go_wp2
      go_quiet (fail)
      go_wp2
      exact ⟨⟨k + 1, by omega, by go_num, n + nq, rfl⟩, by simp [intOf]; omega⟩
    · go_wp2
      go_ret
      exact ⟨rfl, ⟨rfl, rfl, rfl, Nat.le_refl _, fun _ _ => rfl⟩⟩
end Go.Proofs.YtkfiahemgdppfaaGreatDoor.Ty

/- Replicas, as they are handed over: slots, certificates, a log, view changes. -/
namespace Go.Proofs.YtkfiahemgdppfaaGreatDoor.Yr
open Go.RowKit Go.Proofs.YtkfiahemgdppfaaGreatDoor.Rg Go.Proofs.YtkfiahemgdppfaaGreatDoor.Gm Go.Proofs.YtkfiahemgdppfaaGreatDoor.Ty

/-- A slot; a certificate; a replica. -/
structure St where
  bd : ByteArray
  ps : List Mg
  cs : List Mg
  st : Bool
  dn : Bool
structure Cx where
  bd : ByteArray
  ms : List Mg
structure Rp where
  id : Int
  n : Int
  vw : Int
  ac : Bool
  ss : List St
  cs : List Cx
  lg : List ByteArray
  ch : List Mg
instance : Inhabited St := ⟨⟨⟨#[]⟩, [], [], false, false⟩⟩
instance : Inhabited Cx := ⟨⟨⟨#[]⟩, []⟩⟩
def ES (w : World) (b o : Nat) (x : St) : Prop := ∃ u1 u2, w.cell? ⟨b, o, none⟩ = some (.string x.bd) ∧ w.cell? ⟨b, o + 1, none⟩ = some u1 ∧ w.cell? ⟨b, o + 2, none⟩ = some u2 ∧ w.cell? ⟨b, o + 3, none⟩ = some (.bool x.st) ∧ w.cell? ⟨b, o + 4, none⟩ = some (.bool x.dn) ∧ Row w u1 x.ps ∧ Row w u2 x.cs
def EC (w : World) (b o : Nat) (x : Cx) : Prop := ∃ u, w.cell? ⟨b, o, none⟩ = some (.string x.bd) ∧ w.cell? ⟨b, o + 1, none⟩ = some u ∧ Row w u x.ms
def RowS (w : World) (v : Value) (xs : List St) : Prop := RowG 5 ES w v xs
def RowC (w : World) (v : Value) (xs : List Cx) : Prop := RowG 2 EC w v xs
theorem staysS : Stays ES := fun _ _ b _ _ hb hlt ⟨u1, u2, h0, h1, h2, h3, h4, h5, h6⟩ => ⟨u1, u2, (hb.cell (p := ⟨b, _, none⟩) hlt).trans h0, (hb.cell (p := ⟨b, _, none⟩) hlt).trans h1, (hb.cell (p := ⟨b, _, none⟩) hlt).trans h2, (hb.cell (p := ⟨b, _, none⟩) hlt).trans h3, (hb.cell (p := ⟨b, _, none⟩) hlt).trans h4, h5.below hb, h6.below hb⟩
theorem staysC : Stays EC := fun _ _ b _ _ hb hlt ⟨u, h0, h1, h2⟩ => ⟨u, (hb.cell (p := ⟨b, _, none⟩) hlt).trans h0, (hb.cell (p := ⟨b, _, none⟩) hlt).trans h1, h2.below hb⟩
theorem RowS.below {w w' : World} {v : Value} {xs : List St} (h : RowS w v xs) (hb : Below w.heap.size w w') : RowS w' v xs := RowG.below staysS h hb
theorem RowC.below {w w' : World} {v : Value} {xs : List Cx} (h : RowC w v xs) (hb : Below w.heap.size w w') : RowC w' v xs := RowG.below staysC h hb
def stV (x : St) (u1 u2 : Value) : Value := .agg #[.string x.bd, u1, u2, .bool x.st, .bool x.dn]
def cxV (x : Cx) (u : Value) : Value := .agg #[.string x.bd, u]
def repV (r : Rp) (vs vc vl vh : Value) : Value := .agg #[.int .i64 r.id, .int .i64 r.n, .int .i64 r.vw, .bool r.ac, vs, vc, vl, vh]
/-- The four slices hold the replica's lists. -/
structure RepR (w : World) (r : Rp) (vs vc vl vh : Value) : Prop where
  s : RowS w vs r.ss
  c : RowC w vc r.cs
  l : RowT w vl r.lg
  h : Row w vh r.ch
theorem RepR.below {w w' : World} {r : Rp} {vs vc vl vh : Value} (h : RepR w r vs vc vl vh) (hb : Below w.heap.size w w') : RepR w' r vs vc vl vh := ⟨h.s.below hb, h.c.below hb, h.l.below hb, h.h.below hb⟩
/-- Nothing in it is longer than m. -/
def SZ (m : Nat) (x : St) : Prop := x.bd.size ≤ m ∧ (x.ps.length ≤ m ∧ ∀ y ∈ x.ps, Tz m y) ∧ x.cs.length ≤ m ∧ ∀ y ∈ x.cs, Tz m y
def CZ (m : Nat) (x : Cx) : Prop := x.bd.size ≤ m ∧ x.ms.length ≤ m ∧ ∀ y ∈ x.ms, Tz m y
structure Zr (m : Nat) (r : Rp) : Prop where
  s : r.ss.length ≤ m
  sz : ∀ x ∈ r.ss, SZ m x
  c : r.cs.length ≤ m
  cz : ∀ x ∈ r.cs, CZ m x
  l : r.lg.length ≤ m
  lz : ∀ t ∈ r.lg, t.size ≤ m
  h : r.ch.length ≤ m
  hz : ∀ x ∈ r.ch, Tz m x
theorem rowT_of {w : World} {v : Value} {ts : List ByteArray} (h : RowG 1 (fun w b o (x : ByteArray) => w.cell? ⟨b, o, none⟩ = some (.string x)) w v ts) : RowT w v ts := by
  obtain ⟨a, cap, rfl, h⟩ := h
  refine ⟨a, cap, rfl, ?_⟩
  rcases h with h | ⟨b, off, rfl, hc, hlt, h⟩
  · exact .inl h
  · refine .inr ⟨b, off, rfl, hc, hlt, fun i hi => ?_⟩
    have := h i (tnth ts i) (by unfold tnth; rw [List.getD_eq_getElem?_getD, List.getElem?_eq_getElem hi]; rfl)
    rw [Nat.mul_one] at this
    exact this
end Go.Proofs.YtkfiahemgdppfaaGreatDoor.Yr
namespace Go.Proofs.YtkfiahemgdppfaaGreatDoor.Op
open Go.ChangeShapes Go.WideShapes Go.ChangeAt Go.RowKit Go.Deep Go.Proofs.YtkfiahemgdppfaaGreatDoor.Rg Go.Proofs.YtkfiahemgdppfaaGreatDoor.Gm Go.Proofs.YtkfiahemgdppfaaGreatDoor.Yr
section
variable {H : Type} {enc : TypeId × Value → H} {w : World} {base : Nat} {spare : Nat → Bool} {held : Bool}
theorem yk1 : Tryz.prog.cellsOf 3 = 1 := by kernel_rfl
theorem yk2 : Tryz.prog.cellsOf 9 = 1 := by kernel_rfl
theorem yk3 : Tryz.prog.cellsOf 4 = 1 := by kernel_rfl
theorem yk4 : Tryz.prog.cellsOf 41 = 1 := by kernel_rfl
set_option maxRecDepth 100000 in
theorem open_slots {fuel : Nat} {cs : List Value} {y : DataW H × List MemPlace} (hf : DataW.trod enc Tryz.prog w base spare held fuel 39 cs = some y) :
    ∃ v xs, cs = [v] ∧ RowS w v xs ∧ xs.length ≤ maxLen ∧ ∀ x ∈ xs, SZ maxLen x := by
  refine open_rows Tryz.underlying39 (c := 5) (by kernel_rfl) (by decide) (fun n cs b o y hl hc ht => ?_) hf
  obtain ⟨xs, k, hk, _, _, hxl, hff⟩ := DataW.trod_struct Tryz.underlying111 ht
  match cs, hl with
  | [v0, v1, v2, v3, v4], _ =>
    match xs, hxl with
    | [y0, y1, y2, y3, y4], _ =>
      have g0 := hff 0 _ rfl
      have g1 := hff 1 _ rfl
      have g2 := hff 2 _ rfl
      have g3 := hff 3 _ rfl
      have g4 := hff 4 _ rfl
      simp [yk2, yk3, yk4] at g0 g1 g2 g3 g4
      obtain ⟨z0, q0, _, m0⟩ := DataW.trod_string Tryz.underlying9 g0
      obtain ⟨z1, s1, q1, r1, l1, t1⟩ := openGm g1
      obtain ⟨z2, s2, q2, r2, l2, t2⟩ := openGm g2
      obtain ⟨z3, q3, _⟩ := DataW.trod_bool Tryz.underlying4 g3
      obtain ⟨z4, q4, _⟩ := DataW.trod_bool Tryz.underlying4 g4
      simp at q0 q1 q2 q3 q4
      subst q0 q1 q2 q3 q4
      exact ⟨⟨z0, s1, s2, z3, z4⟩, ⟨_, _, cell_eq hc 0 (by decide) rfl, cell_eq hc 1 (by decide) rfl, cell_eq hc 2 (by decide) rfl, cell_eq hc 3 (by decide) rfl, cell_eq hc 4 (by decide) rfl, r1, r2⟩, m0, ⟨l1, t1⟩, l2, t2⟩
set_option maxRecDepth 100000 in
theorem open_certs {fuel : Nat} {cs : List Value} {y : DataW H × List MemPlace} (hf : DataW.trod enc Tryz.prog w base spare held fuel 40 cs = some y) :
    ∃ v xs, cs = [v] ∧ RowC w v xs ∧ xs.length ≤ maxLen ∧ ∀ x ∈ xs, CZ maxLen x := by
  refine open_rows Tryz.underlying40 (c := 2) (by kernel_rfl) (by decide) (fun n cs b o y hl hc ht => ?_) hf
  obtain ⟨xs, k, hk, _, _, hxl, hff⟩ := DataW.trod_struct Tryz.underlying114 ht
  match cs, hl with
  | [v0, v1], _ =>
    match xs, hxl with
    | [y0, y1], _ =>
      have g0 := hff 0 _ rfl
      have g1 := hff 1 _ rfl
      simp [yk2, yk4] at g0 g1
      obtain ⟨z0, q0, _, m0⟩ := DataW.trod_string Tryz.underlying9 g0
      obtain ⟨z1, s1, q1, r1, l1, t1⟩ := openGm g1
      simp at q0 q1
      subst q0 q1
      exact ⟨⟨z0, s1⟩, ⟨_, cell_eq hc 0 (by decide) rfl, cell_eq hc 1 (by decide) rfl, r1⟩, m0, l1, t1⟩
set_option maxRecDepth 100000 in
theorem open_logs {fuel : Nat} {cs : List Value} {y : DataW H × List MemPlace} (hf : DataW.trod enc Tryz.prog w base spare held fuel 28 cs = some y) :
    ∃ v xs, cs = [v] ∧ RowG 1 (fun w b o (x : ByteArray) => w.cell? ⟨b, o, none⟩ = some (.string x)) w v xs ∧ xs.length ≤ maxLen ∧ ∀ x ∈ xs, x.size ≤ maxLen := by
  refine open_rows Tryz.underlying28 (c := 1) (by kernel_rfl) (by decide) (fun n cs b o y hl hc ht => ?_) hf
  match cs, hl with
  | [v0], _ =>
    obtain ⟨z0, q0, _, m0⟩ := DataW.trod_string Tryz.underlying9 ht
    simp at q0
    subst q0
    exact ⟨z0, cell_eq hc 0 (by decide) rfl, m0⟩
set_option maxRecDepth 100000 in
theorem open_replica {r : Reach} {b0 : Nat} {v : Value} {d : DataW H} {p : List MemPlace}
    (hv : Value.okWide Tryz.prog w r b0 43 v) (h : DataW.Trod enc Tryz.prog w base spare held 43 v d p) :
    ∃ (r : Rp) (vs vc vl vh : Value), v = repV r vs vc vl vh ∧ RepR w r vs vc vl vh ∧ Zr maxLen r := by
  obtain ⟨cs, rfl, hsz, hf⟩ := open_cells Tryz.underlying43 (by kernel_rfl) hv h
  have hsz8 : cs.size = 8 := hsz.trans (by kernel_rfl)
  obtain ⟨l⟩ := cs
  match l, hsz8 with
  | [c0, c1, c2, c3, c4, c5, c6, c7], _ =>
    obtain ⟨a0, rfl, _⟩ := cell_int Tryz.underlying3 (hf 0 _ _ rfl rfl)
    obtain ⟨a1, rfl, _⟩ := cell_int Tryz.underlying3 (hf 1 _ _ rfl rfl)
    obtain ⟨a2, rfl, _⟩ := cell_int Tryz.underlying3 (hf 2 _ _ rfl rfl)
    obtain ⟨n3, y3, h3⟩ := hf 3 _ _ rfl rfl
    obtain ⟨n4, y4, h4⟩ := hf 4 _ _ rfl rfl
    obtain ⟨n5, y5, h5⟩ := hf 5 _ _ rfl rfl
    obtain ⟨n6, y6, h6⟩ := hf 6 _ _ rfl rfl
    obtain ⟨n7, y7, h7⟩ := hf 7 _ _ rfl rfl
    obtain ⟨z3, q3, _⟩ := DataW.trod_bool Tryz.underlying4 h3
    obtain ⟨v4, ss, e4, r4, l4, t4⟩ := open_slots h4
    obtain ⟨v5, cc, e5, r5, l5, t5⟩ := open_certs h5
    obtain ⟨v6, lg, e6, r6, l6, t6⟩ := open_logs h6
    obtain ⟨v7, ch, e7, r7, l7, t7⟩ := openGm h7
    cases q3
    cases e4
    cases e5
    cases e6
    cases e7
    exact ⟨⟨a0, a1, a2, z3, ss, cc, lg, ch⟩, _, _, _, _, rfl, ⟨r4, r5, rowT_of r6, r7⟩, ⟨l4, t4, l5, t5, l6, t6, l7, t7⟩⟩
end
end Go.Proofs.YtkfiahemgdppfaaGreatDoor.Op

/- Bytes that are told: numbers, texts. -/
namespace Go.Proofs.YtkfiahemgdppfaaGreatDoor.Pu
open Go.RowKit Go.Proofs.YtkfiahemgdppfaaGreatDoor.Sl Go.Proofs.YtkfiahemgdppfaaGreatDoor.By Go.Proofs.YtkfiahemgdppfaaGreatDoor.Ap

/-- The byte of a number that stands 'at' places from its end. -/
def nb (v : Int) (at' : Nat) : Int := v / 2 ^ (8 * at') % 256
def nums (v : Int) (size k : Nat) : List Int := (List.range k).map fun j => nb v (size - 1 - j)
theorem nums_succ (v : Int) (size k : Nat) : nums v size (k + 1) = nums v size k ++ [nb v (size - 1 - k)] := by simp [nums, List.range_succ]
theorem nums_length (v : Int) (size k : Nat) : (nums v size k).length = k := by simp [nums]

theorem nb_range (v : Int) (k : Nat) : 0 ≤ nb v k ∧ nb v k ≤ 255 := by unfold nb; omega
theorem nums_range (v : Int) (size k : Nat) : ∀ z ∈ nums v size k, 0 ≤ z ∧ z ≤ 255 := by
  intro z hz
  unfold nums at hz
  obtain ⟨j, _, rfl⟩ := List.mem_map.1 hz
  exact nb_range _ _
set_option maxHeartbeats 400000 in
theorem putNumber_any (v : Value) (zs : List Int) (x : Int) (size : Nat) (B : Nat) (w : World) (hown : OwnB 5 w B v zs) (hB : B ≤ w.heap.size) (hs : size ≤ 4) (hlen : zs.length ≤ 1048576) :
    Calls Tryz.prog 139 #[v, .int .i64 x, .int .i64 size] w fun e w' => ∃ v', e = .returned v' ∧ OwnB 5 w' B v' (zs ++ nums x size size) ∧ Kp w w' v v' := by
  obtain ⟨i0, hi, hz0, hz1, hz2⟩ := info_parts Sl.info5
  have hs0 : (size : Int) ≤ 4 := by omega
  have HS : Hid (size ≤ 4) := hs
  have HL : Hid (zs.length ≤ 1048576) := hlen
  clear hs hlen
  go_enter Tryz.func139, Tryz.ntmps139
  go_wp2_with fail
  go_loopw [0, 7] (fun b i wr => ∃ (k : Nat) (q : Int), Hid ((k : Int) + q + 1 = size ∧ k ≤ size) ∧ -1 ≤ q ∧ q ≤ 3 ∧ i = .int .i64 q ∧ OwnB 5 wr B b (zs ++ nums x size k) ∧ Kp w wr v b) (fun _ i _ => (intOf i + 1).toNat)
  case atStart => exact ⟨0, (size : Int) - 1, ⟨by omega, by omega⟩, by omega, by omega, by go_num, by simpa [nums] using hown, Kp.refl _ _⟩
  case round =>
    clear hown hs0
    obtain ⟨k, q, HQ, hq0, hq1, rfl, hown, hkp⟩ := hrel
    have hB' : B ≤ wr.heap.size := Nat.le_trans hB hkp.size
    by_cases hlt : 0 ≤ q
    · have hl : (zs ++ nums x size k).length + 1 ≤ 140737488355328 := by rw [List.length_append, nums_length]; have := HQ.out; have := HL.out; have := HS.out; omega
      go_wp2_with (at_builtin; go_must (refine list_one (by rfl) _ _ 22 (by rfl) Tryz.underlying22 hi hz0 hz1 hz2 B _ _ _ _ (by rfl) (by rfl) hown hB' (by omega) hl ?_; intro v' w' hown' hkp'))
      have e : x / 2 ^ (8 * q).toNat % 256 = nb x (size - 1 - k) := by
        unfold nb
        rw [show (8 * q).toNat = 8 * (size - 1 - k) by have := HQ.out; omega]
      rw [e, List.append_assoc, ← nums_succ] at hown'
      exact ⟨⟨k + 1, q - 1, ⟨by have := HQ.out; omega, by have := HQ.out; omega⟩, by omega, by omega, rfl, hown', hkp.trans hkp'⟩, by simp [intOf]; omega⟩
    · have hk : k = size := by have := HQ.out; omega
      have HK : Hid (k = size) := hk
      clear hk
      go_wp2
      go_ret
      exact ⟨_, rfl, by rw [HK.out] at hown; exact hown, hkp⟩

set_option maxHeartbeats 400000 in
theorem putText_any (v : Value) (zs : List Int) (s : ByteArray) (size : Nat) (B : Nat) (w : World) (hown : OwnB 5 w B v zs) (hB : B ≤ w.heap.size) (hs : size ≤ 4) (hlen : zs.length ≤ 1048000) (hl2 : s.size ≤ 1048576) :
    Calls Tryz.prog 140 #[v, .string s, .int .i64 size] w fun e w' => ∃ v', e = .returned v' ∧ OwnB 5 w' B v' (zs ++ nums (s.size : Int) size size ++ bys s) ∧ Kp w w' v v' := by
  obtain ⟨i0, hi, hz0, hz1, hz2⟩ := info_parts Sl.info5
  have hl : ∀ q : List Int, q.length = zs.length + size → q.length + s.size ≤ 140737488355328 := by omega
  have HN : Hid ((zs ++ nums (s.size : Int) size size).length = zs.length + size) := by show _ = _; rw [List.length_append, nums_length]
  have HL : Hid (_) := hl
  have HO : Hid (OwnB 5 w B v zs) := hown
  clear hl hown
  go_enter Tryz.func140, Tryz.ntmps140
  go_wp2_with fail
  refine (putNumber_any v zs _ size B _ HO.out hB hs (by omega)).mono ?_
  rintro e w1 ⟨v1, rfl, o1, k1⟩
  have B1 : B ≤ w1.heap.size := Nat.le_trans hB k1.size
  go_wp2_with (at_builtin; go_must (refine list_str (by rfl) _ _ 22 9 (by rfl) Tryz.underlying22 Tryz.underlying9 hi hz0 hz1 hz2 B _ _ s _ (by rfl) (by rfl) o1 B1 (HL.out _ HN.out) ?_; intro v2 w2 o2 k2))
  go_ret
  exact ⟨_, rfl, o2, k1.trans k2⟩

set_option maxHeartbeats 400000 in
theorem l02Number_any (x : Int) (size : Nat) (w : World) (hs : size ≤ 4) :
    Calls Tryz.prog 86 #[.int .i64 x, .int .i64 size] w fun e w' => ∃ v', e = .returned v' ∧ OwnB 5 w' w.heap.size v' (nums x size size) ∧ Below w.heap.size w w' := by
  obtain ⟨i0, hi, hz0, hz1, hz2⟩ := info_parts Sl.info5
  have hs0 : (size : Int) ≤ 4 := by omega
  have HS : Hid (size ≤ 4) := hs
  clear hs
  go_enter Tryz.func86, Tryz.ntmps86
  go_wp2_with fail
  go_loopw [5, 6] (fun b i wr => ∃ (k : Nat) (q : Int), Hid ((k : Int) + q + 1 = size ∧ k ≤ size) ∧ -1 ≤ q ∧ q ≤ 3 ∧ i = .int .i64 q ∧ OwnB 5 wr w.heap.size b (nums x size k) ∧ Below w.heap.size w wr) (fun _ i _ => (intOf i + 1).toNat)
  case atStart => exact ⟨0, (size : Int) - 1, ⟨by omega, by omega⟩, by omega, by omega, by go_num, own_made 5 w w.heap.size #[] 0 (Nat.le_refl _) (by simp [maxLen]) rfl, (Below.refl _ _).alloc (Nat.le_refl _) _⟩
  case round =>
    clear hs0
    obtain ⟨k, q, HQ, hq0, hq1, rfl, hown, hbel⟩ := hrel
    by_cases hlt : 0 ≤ q
    · have hl : (nums x size k).length + 1 ≤ 140737488355328 := by rw [nums_length]; have := HQ.out; have := HS.out; omega
      have hB := hbel.size
      go_wp2_with (at_builtin; go_must (refine By.wpList_append_byte (by rfl) _ _ 22 (by rfl) 5 i0 Tryz.underlying22 hi hz0 hz1 hz2 w.heap.size w _ _ _ _ (by rfl) hown hbel hB (by rfl) hl ?_; intro v' w' hown' hbel' hB'))
      have e : x / 2 ^ (8 * q).toNat % 256 = nb x (size - 1 - k) := by
        unfold nb
        rw [show (8 * q).toNat = 8 * (size - 1 - k) by have := HQ.out; omega]
      rw [e, ← nums_succ] at hown'
      exact ⟨⟨k + 1, q - 1, ⟨by have := HQ.out; omega, by have := HQ.out; omega⟩, by omega, by omega, rfl, hown', hbel'⟩, by simp [intOf]; omega⟩
    · have hk : k = size := by have := HQ.out; omega
      have HK : Hid (k = size) := hk
      clear hk
      go_wp2
      go_ret
      exact ⟨_, rfl, by rw [HK.out] at hown; exact hown, hbel⟩
end Go.Proofs.YtkfiahemgdppfaaGreatDoor.Pu
