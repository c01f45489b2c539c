/- Texts put together: Txs, Ya. -/
import Derived.Test.YtondmbeccpekiaaGreatDoorH0
import Derived.Test.YtondmbeccpekiaaGreatDoorH2
import Derived.Test.YtondmbeccpekiaaGreatDoorH4
import Derived.Laws.MakeOwn
import Derived.Laws.NewBlocks
import Derived.Deep.QuietTactic
import Derived.BigQuiet
import Derived.Test.YtondmbeccpekiaaGreatDoorH1
import Derived.Test.YtondmbeccpekiaaGreatDoorH3
/- Texts in a slice: read, copied, compared. -/
namespace Go.Proofs.YtondmbeccpekiaaGreatDoor.Ty
open Go.RowKit Go.Proofs.YtondmbeccpekiaaGreatDoor.Sl Go.Proofs.YtondmbeccpekiaaGreatDoor.By Go.Proofs.YtondmbeccpekiaaGreatDoor.Ap Go.Proofs.YtondmbeccpekiaaGreatDoor.Rq Go.Proofs.YtondmbeccpekiaaGreatDoor.Rr

def tnth (ts : List ByteArray) (i : Nat) : ByteArray := ts.getD i ⟨#[]⟩
def RowT (w : World) (v : Value) (ts : List ByteArray) : Prop :=
  ∃ a cap, v = .slice a ts.length cap ∧ (ts = [] ∨ ∃ b off, a = some ⟨b, off, none⟩ ∧ ts.length ≤ cap ∧ b < w.heap.size ∧ ∀ i, i < ts.length → w.cell? ⟨b, off + i, none⟩ = some (.string (tnth ts i)))
theorem RowT.below {w w' : World} {v : Value} {ts : List ByteArray} (h : RowT w v ts) (hb : Below w.heap.size w w') : RowT w' v ts := by
  obtain ⟨a, cap, rfl, h⟩ := h
  refine ⟨a, cap, rfl, ?_⟩
  rcases h with h | ⟨b, off, rfl, hc, hlt, h⟩
  · exact .inl h
  · exact .inr ⟨b, off, rfl, hc, Nat.lt_of_lt_of_le hlt hb.size, fun i hi => (hb.cell (p := ⟨b, off + i, none⟩) hlt).trans (h i hi)⟩
theorem info9 : (Tryz.prog.info? 9).map (fun i => (i.zero, i.size, i.bytes)) = some (some (.string ⟨#[]⟩), 1, 16) := by kernel_rfl
def OwnT (w : World) (B : Nat) (v : Value) (ts : List ByteArray) : Prop :=
  ∃ g A, v = .slice (some ⟨g, 0, none⟩) ts.length ts.length ∧ B ≤ g ∧ w.heap[g]? = some (.cells A 9 (0, 0)) ∧ A.size = ts.length ∧ ∀ j, j < ts.length → A[j]? = some (.string (tnth ts j))
theorem OwnT.row {w : World} {B : Nat} {v : Value} {ts : List ByteArray} (h : OwnT w B v ts) : RowT w v ts := by
  obtain ⟨g, A, rfl, hB, hg, hs, hA⟩ := h
  refine ⟨_, _, rfl, .inr ⟨g, 0, rfl, Nat.le_refl _, (Array.getElem?_eq_some_iff.1 hg).1, fun i hi => ?_⟩⟩
  rw [Nat.zero_add, Joins.cell_of_block hg i]
  exact hA i hi
theorem OwnT.below {w w' : World} {B : Nat} {v : Value} {ts : List ByteArray} (h : OwnT w B v ts) (hb : Below w.heap.size w w') : OwnT w' B v ts := by
  obtain ⟨g, A, rfl, hB, hg, hs, hA⟩ := h
  exact ⟨g, A, rfl, hB, (hb.block g (Array.getElem?_eq_some_iff.1 hg).1).trans hg, hs, hA⟩

def Copied (ts : List ByteArray) (k : Nat) (A : Array Value) : Prop := A.size = ts.length ∧ ∀ j, j < k → A[j]? = some (.string (tnth ts j))
set_option maxHeartbeats 400000 in
theorem toStringS_any (v : Value) (ts : List ByteArray) (w : World) (h : RowT w v ts) (hl : ts.length ≤ 1048576) :
    Calls Tryz.prog 101 #[v] w fun e w' => ∃ v', e = .returned v' ∧ OwnT w' w.heap.size v' ts ∧ Below w.heap.size w w' := by
  obtain ⟨a, cap, rfl, h⟩ := h
  obtain ⟨i0, hi, hz0, hz1, hz2⟩ := info_parts info9
  have hmk := run_make (P := Tryz.prog) w 38 9 i0 (.string ⟨#[]⟩) Tryz.underlying38 hi hz0 .i64 .i64 (ts.length : Int) (ts.length : Int) (by omega) (by omega) (by rw [hz2]; omega) (by omega)
  have hA0 : Copied ts 0 (madeCells (Value.string ⟨#[]⟩).cells ((ts.length : Int).toNat * i0.size)) := ⟨by rw [hz1]; simp [madeCells, Value.cells], fun j hj => absurd hj (by omega)⟩
  generalize madeCells (Value.string ⟨#[]⟩).cells ((ts.length : Int).toNat * i0.size) = A0 at hmk hA0
  rw [Int.toNat_natCast] at hmk
  go_enter Tryz.func101, Tryz.ntmps101
  go_wp2_with fail
  clear hmk
  go_loopw [4] (fun i wr => ∃ k : Nat, ∃ A : Array Value, k ≤ ts.length ∧ i = .int .i64 k ∧ wr = w.alloc (.cells A 9) ∧ Copied ts k A) (fun i _ => ts.length - (intOf i).toNat)
  case atStart => exact ⟨0, A0, by omega, rfl, rfl, hA0⟩
  case round =>
    clear hA0
    obtain ⟨k, A, hk, rfl, rfl, hA⟩ := hrel
    by_cases hlt : k < ts.length
    · rcases h with h | ⟨b, off, rfl, hc, hb, hcell⟩
      · exact absurd hlt (by rw [h]; simp)
      have hc1 := hcell k hlt
      have hne : b ≠ w.heap.size := by omega
      obtain ⟨x, hx⟩ : ∃ x, A[k]? = some x := ⟨_, Array.getElem?_eq_getElem (by rw [hA.1]; exact hlt)⟩
      clear hcell
      have hA' : Copied ts (k + 1) (A.setIfInBounds k (.string (tnth ts k))) := by
        refine ⟨by rw [Array.size_setIfInBounds]; exact hA.1, fun j hj => ?_⟩
        rw [Array.getElem?_setIfInBounds]
        by_cases e : k = j
        · subst e
          rw [if_pos rfl, if_pos (by rw [hA.1]; exact hlt)]
        · rw [if_neg e]
          exact hA.2 j (by omega)
      go_wp2
      go_roundw
      case rel => exact ⟨k + 1, _, by omega, by go_num, rfl, hA'⟩
      case measure => simp [intOf]; omega
    · obtain rfl : k = ts.length := by omega
      go_wp2
      go_ret
      exact ⟨_, rfl, ⟨w.heap.size, A, rfl, Nat.le_refl _, blk_new _ _ _, hA.1, hA.2⟩, (Below.refl _ _).alloc (Nat.le_refl _) _⟩

set_option maxHeartbeats 400000 in
theorem eqStringS_same (v u : Value) (ts : List ByteArray) (w : World) (h : RowT w v ts) (g : RowT w u ts) (hl : ts.length ≤ 1048576) :
    Calls Tryz.prog 14 #[v, u] w fun e w' => e = .returned (.bool true) ∧ Below w.heap.size w w' := by
  obtain ⟨a, cap, rfl, h⟩ := h
  obtain ⟨a', cap', rfl, g⟩ := g
  have hne : ((ts.length : Int) != (ts.length : Int)) = false := by simp
  go_enter Tryz.func14, Tryz.ntmps14
  go_wp2_with fail
  go_loopw [5] (fun i wr => ∃ k : Nat, k ≤ ts.length ∧ i = .int .i64 k ∧ ∃ n, wr = w.drewN n) (fun i _ => ts.length - (intOf i).toNat)
  case atStart => exact ⟨0, by omega, rfl, 0, rfl⟩
  case round =>
    obtain ⟨k, hk, rfl, n, rfl⟩ := hrel
    by_cases hlt : k < ts.length
    · rcases h with h | ⟨b, off, rfl, hc, hb, hcell⟩
      · exact absurd hlt (by rw [h]; simp)
      rcases g with g | ⟨b', off', rfl, hc', hb', gcell⟩
      · exact absurd hlt (by rw [g]; simp)
      have hc1 := hcell k hlt
      have hc2 := gcell k hlt
      have hp0 : (0 : Int) ≤ (k : Int) := by omega
      have hp1 : (k : Int) < (ts.length : Int) := by omega
      clear hcell gcell
      go_wp2
      go_quiet (fail)
      go_wp2
      exact ⟨⟨k + 1, by omega, by go_num, n + nq, rfl⟩, by simp [intOf]; omega⟩
    · go_wp2
      go_ret
      exact ⟨rfl, ⟨rfl, rfl, rfl, Nat.le_refl _, fun _ _ => rfl⟩⟩
end Go.Proofs.YtondmbeccpekiaaGreatDoor.Ty

/- Replicas, as they are handed over: slots, certificates, a log, view changes. -/
namespace Go.Proofs.YtondmbeccpekiaaGreatDoor.Yr
open Go.RowKit Go.Proofs.YtondmbeccpekiaaGreatDoor.Rg Go.Proofs.YtondmbeccpekiaaGreatDoor.Gm Go.Proofs.YtondmbeccpekiaaGreatDoor.Ty

structure St where
  bd : ByteArray
  ps : List Mg
  cs : List Mg
  st : Bool
  dn : Bool
structure Cx where
  bd : ByteArray
  ms : List Mg
structure Rp where
  id : Int
  n : Int
  vw : Int
  ac : Bool
  ss : List St
  cs : List Cx
  lg : List ByteArray
  ch : List Mg
instance : Inhabited St := ⟨⟨⟨#[]⟩, [], [], false, false⟩⟩
instance : Inhabited Cx := ⟨⟨⟨#[]⟩, []⟩⟩
def ES (w : World) (b o : Nat) (x : St) : Prop := ∃ u1 u2, w.cell? ⟨b, o, none⟩ = some (.string x.bd) ∧ w.cell? ⟨b, o + 1, none⟩ = some u1 ∧ w.cell? ⟨b, o + 2, none⟩ = some u2 ∧ w.cell? ⟨b, o + 3, none⟩ = some (.bool x.st) ∧ w.cell? ⟨b, o + 4, none⟩ = some (.bool x.dn) ∧ Row w u1 x.ps ∧ Row w u2 x.cs
def EC (w : World) (b o : Nat) (x : Cx) : Prop := ∃ u, w.cell? ⟨b, o, none⟩ = some (.string x.bd) ∧ w.cell? ⟨b, o + 1, none⟩ = some u ∧ Row w u x.ms
def RowS (w : World) (v : Value) (xs : List St) : Prop := RowG 5 ES w v xs
def RowC (w : World) (v : Value) (xs : List Cx) : Prop := RowG 2 EC w v xs
theorem staysS : Stays ES := fun _ _ b _ _ hb hlt ⟨u1, u2, h0, h1, h2, h3, h4, h5, h6⟩ => ⟨u1, u2, (hb.cell (p := ⟨b, _, none⟩) hlt).trans h0, (hb.cell (p := ⟨b, _, none⟩) hlt).trans h1, (hb.cell (p := ⟨b, _, none⟩) hlt).trans h2, (hb.cell (p := ⟨b, _, none⟩) hlt).trans h3, (hb.cell (p := ⟨b, _, none⟩) hlt).trans h4, h5.below hb, h6.below hb⟩
theorem staysC : Stays EC := fun _ _ b _ _ hb hlt ⟨u, h0, h1, h2⟩ => ⟨u, (hb.cell (p := ⟨b, _, none⟩) hlt).trans h0, (hb.cell (p := ⟨b, _, none⟩) hlt).trans h1, h2.below hb⟩
theorem RowS.below {w w' : World} {v : Value} {xs : List St} (h : RowS w v xs) (hb : Below w.heap.size w w') : RowS w' v xs := RowG.below staysS h hb
theorem RowC.below {w w' : World} {v : Value} {xs : List Cx} (h : RowC w v xs) (hb : Below w.heap.size w w') : RowC w' v xs := RowG.below staysC h hb
def stV (x : St) (u1 u2 : Value) : Value := .agg #[.string x.bd, u1, u2, .bool x.st, .bool x.dn]
def cxV (x : Cx) (u : Value) : Value := .agg #[.string x.bd, u]
def repV (r : Rp) (vs vc vl vh : Value) : Value := .agg #[.int .i64 r.id, .int .i64 r.n, .int .i64 r.vw, .bool r.ac, vs, vc, vl, vh]
structure RepR (w : World) (r : Rp) (vs vc vl vh : Value) : Prop where
  s : RowS w vs r.ss
  c : RowC w vc r.cs
  l : RowT w vl r.lg
  h : Row w vh r.ch
theorem RepR.below {w w' : World} {r : Rp} {vs vc vl vh : Value} (h : RepR w r vs vc vl vh) (hb : Below w.heap.size w w') : RepR w' r vs vc vl vh := ⟨h.s.below hb, h.c.below hb, h.l.below hb, h.h.below hb⟩
def SZ (m : Nat) (x : St) : Prop := x.bd.size ≤ m ∧ (x.ps.length ≤ m ∧ ∀ y ∈ x.ps, Tz m y) ∧ x.cs.length ≤ m ∧ ∀ y ∈ x.cs, Tz m y
def CZ (m : Nat) (x : Cx) : Prop := x.bd.size ≤ m ∧ x.ms.length ≤ m ∧ ∀ y ∈ x.ms, Tz m y
structure Zr (m : Nat) (r : Rp) : Prop where
  s : r.ss.length ≤ m
  sz : ∀ x ∈ r.ss, SZ m x
  c : r.cs.length ≤ m
  cz : ∀ x ∈ r.cs, CZ m x
  l : r.lg.length ≤ m
  lz : ∀ t ∈ r.lg, t.size ≤ m
  h : r.ch.length ≤ m
  hz : ∀ x ∈ r.ch, Tz m x
theorem rowT_of {w : World} {v : Value} {ts : List ByteArray} (h : RowG 1 (fun w b o (x : ByteArray) => w.cell? ⟨b, o, none⟩ = some (.string x)) w v ts) : RowT w v ts := by
  obtain ⟨a, cap, rfl, h⟩ := h
  refine ⟨a, cap, rfl, ?_⟩
  rcases h with h | ⟨b, off, rfl, hc, hlt, h⟩
  · exact .inl h
  · refine .inr ⟨b, off, rfl, hc, hlt, fun i hi => ?_⟩
    have := h i (tnth ts i) (by unfold tnth; rw [List.getD_eq_getElem?_getD, List.getElem?_eq_getElem hi]; rfl)
    rw [Nat.mul_one] at this
    exact this
end Go.Proofs.YtondmbeccpekiaaGreatDoor.Yr
namespace Go.Proofs.YtondmbeccpekiaaGreatDoor.Op
open Go.ChangeShapes Go.WideShapes Go.ChangeAt Go.RowKit Go.Deep Go.Proofs.YtondmbeccpekiaaGreatDoor.Rg Go.Proofs.YtondmbeccpekiaaGreatDoor.Gm Go.Proofs.YtondmbeccpekiaaGreatDoor.Yr
section
variable {H : Type} {enc : TypeId × Value → H} {w : World} {base : Nat} {spare : Nat → Bool} {held : Bool}
theorem yk1 : Tryz.prog.cellsOf 3 = 1 := by kernel_rfl
theorem yk2 : Tryz.prog.cellsOf 9 = 1 := by kernel_rfl
theorem yk3 : Tryz.prog.cellsOf 4 = 1 := by kernel_rfl
theorem yk4 : Tryz.prog.cellsOf 25 = 1 := by kernel_rfl
set_option maxRecDepth 100000 in
theorem open_slots {fuel : Nat} {cs : List Value} {y : DataW H × List MemPlace} (hf : DataW.trod enc Tryz.prog w base spare held fuel 90 cs = some y) :
    ∃ v xs, cs = [v] ∧ RowS w v xs ∧ xs.length ≤ maxLen ∧ ∀ x ∈ xs, SZ maxLen x := by
  refine open_rows Tryz.underlying90 (c := 5) (by kernel_rfl) (by decide) (fun n cs b o y hl hc ht => ?_) hf
  obtain ⟨xs, k, hk, _, _, hxl, hff⟩ := DataW.trod_struct Tryz.underlying152 ht
  match cs, hl with
  | [v0, v1, v2, v3, v4], _ =>
    match xs, hxl with
    | [y0, y1, y2, y3, y4], _ =>
      have g0 := hff 0 _ rfl
      have g1 := hff 1 _ rfl
      have g2 := hff 2 _ rfl
      have g3 := hff 3 _ rfl
      have g4 := hff 4 _ rfl
      simp [yk2, yk3, yk4] at g0 g1 g2 g3 g4
      obtain ⟨z0, q0, _, m0⟩ := DataW.trod_string Tryz.underlying9 g0
      obtain ⟨z1, s1, q1, r1, l1, t1⟩ := openGm g1
      obtain ⟨z2, s2, q2, r2, l2, t2⟩ := openGm g2
      obtain ⟨z3, q3, _⟩ := DataW.trod_bool Tryz.underlying4 g3
      obtain ⟨z4, q4, _⟩ := DataW.trod_bool Tryz.underlying4 g4
      simp at q0 q1 q2 q3 q4
      subst q0 q1 q2 q3 q4
      exact ⟨⟨z0, s1, s2, z3, z4⟩, ⟨_, _, cell_eq hc 0 (by decide) rfl, cell_eq hc 1 (by decide) rfl, cell_eq hc 2 (by decide) rfl, cell_eq hc 3 (by decide) rfl, cell_eq hc 4 (by decide) rfl, r1, r2⟩, m0, ⟨l1, t1⟩, l2, t2⟩
set_option maxRecDepth 100000 in
theorem open_certs {fuel : Nat} {cs : List Value} {y : DataW H × List MemPlace} (hf : DataW.trod enc Tryz.prog w base spare held fuel 91 cs = some y) :
    ∃ v xs, cs = [v] ∧ RowC w v xs ∧ xs.length ≤ maxLen ∧ ∀ x ∈ xs, CZ maxLen x := by
  refine open_rows Tryz.underlying91 (c := 2) (by kernel_rfl) (by decide) (fun n cs b o y hl hc ht => ?_) hf
  obtain ⟨xs, k, hk, _, _, hxl, hff⟩ := DataW.trod_struct Tryz.underlying155 ht
  match cs, hl with
  | [v0, v1], _ =>
    match xs, hxl with
    | [y0, y1], _ =>
      have g0 := hff 0 _ rfl
      have g1 := hff 1 _ rfl
      simp [yk2, yk4] at g0 g1
      obtain ⟨z0, q0, _, m0⟩ := DataW.trod_string Tryz.underlying9 g0
      obtain ⟨z1, s1, q1, r1, l1, t1⟩ := openGm g1
      simp at q0 q1
      subst q0 q1
      exact ⟨⟨z0, s1⟩, ⟨_, cell_eq hc 0 (by decide) rfl, cell_eq hc 1 (by decide) rfl, r1⟩, m0, l1, t1⟩
set_option maxRecDepth 100000 in
theorem open_logs {fuel : Nat} {cs : List Value} {y : DataW H × List MemPlace} (hf : DataW.trod enc Tryz.prog w base spare held fuel 38 cs = some y) :
    ∃ v xs, cs = [v] ∧ RowG 1 (fun w b o (x : ByteArray) => w.cell? ⟨b, o, none⟩ = some (.string x)) w v xs ∧ xs.length ≤ maxLen ∧ ∀ x ∈ xs, x.size ≤ maxLen := by
  refine open_rows Tryz.underlying38 (c := 1) (by kernel_rfl) (by decide) (fun n cs b o y hl hc ht => ?_) hf
  match cs, hl with
  | [v0], _ =>
    obtain ⟨z0, q0, _, m0⟩ := DataW.trod_string Tryz.underlying9 ht
    simp at q0
    subst q0
    exact ⟨z0, cell_eq hc 0 (by decide) rfl, m0⟩
end
end Go.Proofs.YtondmbeccpekiaaGreatDoor.Op
