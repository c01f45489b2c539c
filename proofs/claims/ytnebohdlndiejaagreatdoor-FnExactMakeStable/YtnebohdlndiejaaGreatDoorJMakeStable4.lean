/- Texts put together: Xg, Xi, Xh, Xj, Xm. -/
import Derived.Test.YtnebohdlndiejaaGreatDoorXo
import Derived.Test.YtnebohdlndiejaaGreatDoorXa
import Derived.Test.YtnebohdlndiejaaGreatDoorJMakeStable0
import Derived.Test.YtnebohdlndiejaaGreatDoorJMakeStable1
import Derived.Test.YtnebohdlndiejaaGreatDoorJMakeStable2
import Derived.Test.YtnebohdlndiejaaGreatDoorJMakeStable3
import Derived.Deep.RegionLaw
import Derived.Deep.Cut
import Derived.Test.YtnebohdlndiejaaGreatDoorEr
import Derived.Test.YtnebohdlndiejaaGreatDoorTr
import Derived.Deep.RegionHeld
import Derived.Deep.RegionHeld3
import Derived.Test.YtnebohdlndiejaaGreatDoorQc
/- Votes that are gathered: withVotes of the program, l10Make of the specification. -/
namespace Go.Proofs.YtnebohdlndiejaaGreatDoor.Xo
open Go.RowKit Go.Proofs.YtnebohdlndiejaaGreatDoor.Sl Go.Proofs.YtnebohdlndiejaaGreatDoor.Rg Go.Proofs.YtnebohdlndiejaaGreatDoor.Xv
open Go.Proofs.YtnebohdlndiejaaGreatDoor.Gt (Vo)
open Go.Proofs.YtnebohdlndiejaaGreatDoor.Hs (stV)
open Go.Proofs.YtnebohdlndiejaaGreatDoor.Sh (KTab KTab.below)
open Go.Proofs.YtnebohdlndiejaaGreatDoor.Xq (RowJ RowJ.below RowJ.at)
open Go.Proofs.YtnebohdlndiejaaGreatDoor.Tb (Lk Sn Tab RowL RowS RowL.below RowS.below tabV)
open Go.Proofs.YtnebohdlndiejaaGreatDoor.Tp (TOK bOf bOf_true bOf_false)
open Go.Proofs.YtnebohdlndiejaaGreatDoor.Pt (tabBs Bnd tok_bnd lsBs lsBs_le ssBs ssBs_len tbOut tbCode)
open Go.Proofs.YtnebohdlndiejaaGreatDoor.Ps (l05Bytes_any)
open Go.Proofs.YtnebohdlndiejaaGreatDoor.Pu (nums nums_range nums_length)
open Go.Proofs.YtnebohdlndiejaaGreatDoor.Sl (RowB)
open Go.Proofs.YtnebohdlndiejaaGreatDoor.Ap (own_rowB)
open Go.Proofs.YtnebohdlndiejaaGreatDoor.Tx (RowT OwnS)
open Go.Proofs.YtnebohdlndiejaaGreatDoor.Pg (cutTo cutN cutL cutC cut_ok l09Cut_any implCutPieces_any pcn)
open Go.Proofs.YtnebohdlndiejaaGreatDoor.Py (rootF rootF_size l09Root_any rootOf_any)
open Go.Proofs.YtnebohdlndiejaaGreatDoor.Fz (range_append)


/-- A table's pieces, how many, and their root. -/
def tL (tm nx : Int) (ls : List Lk) (ss : List Sn) : List ByteArray := cutTo (tabBs tm nx ls ss) (cutN (tabBs tm nx ls ss))
def tN (tm nx : Int) (ls : List Lk) (ss : List Sn) : Int := (cutN (tabBs tm nx ls ss) : Nat)
def tR (tm nx : Int) (ls : List Lk) (ss : List Sn) : ByteArray := rootF 64 (tL tm nx ls ss)
theorem tab_range (tm nx : Int) (ls : List Lk) (ss : List Sn) : ∀ z ∈ tabBs tm nx ls ss, 0 ≤ z ∧ z ≤ 255 := Pt.tabBs_range tm nx ls ss
theorem tab_len {tm nx : Int} {ls : List Lk} {ss : List Sn} (h : Bnd ls ss) : 9 ≤ (tabBs tm nx ls ss).length ∧ (tabBs tm nx ls ss).length ≤ 1000 := by
  obtain ⟨h1, h2, h3, _⟩ := h
  have := lsBs_le ls fun x hx => ⟨(h3 x hx).1, (h3 x hx).2.1⟩
  unfold tabBs
  simp only [List.length_append, nums_length, ssBs_len]
  omega
theorem tL_len {tm nx : Int} {ls : List Lk} {ss : List Sn} : ((tL tm nx ls ss).length : Int) = tN tm nx ls ss := by unfold tL tN; rw [Pg.cutTo_length]
theorem tL_some {tm nx : Int} {ls : List Lk} {ss : List Sn} (h : TOK ⟨tm, nx, ls, ss⟩) : 1 ≤ (tL tm nx ls ss).length ∧ (tL tm nx ls ss).length ≤ 64 := by
  have := tab_len (tm := tm) (nx := nx) (tok_bnd h)
  unfold tL
  rw [Pg.cutTo_length]
  unfold cutN
  omega
theorem cut_small (xs : List Int) : ∀ k, ∀ t ∈ cutTo xs k, t.size ≤ 32
  | 0 => by intro t ht; simp [cutTo] at ht
  | k + 1 => by
    intro t ht
    unfold cutTo at ht
    rcases List.mem_append.1 ht with ht | ht
    · exact cut_small xs k t ht
    · simp at ht
      subst ht
      rw [strOfNums_size]
      unfold pcn
      rw [List.length_take]
      omega
theorem tL_small {tm nx : Int} {ls : List Lk} {ss : List Sn} (_h : TOK ⟨tm, nx, ls, ss⟩) : ∀ t ∈ tL tm nx ls ss, t.size ≤ 32 := cut_small _ _
theorem tR_size {tm nx : Int} {ls : List Lk} {ss : List Sn} (h : TOK ⟨tm, nx, ls, ss⟩) : (tR tm nx ls ss).size ≤ 1000 := by
  unfold tR
  rw [rootF_size 64 _ (tL_some h).1 (tL_some h).2 (tL_small h)]
  decide
/-- The votes of nodes. -/
def vtOf (sq sz : Int) (rt : ByteArray) (f : Int) : Vo := ⟨f, vmk f.toNat sq sz rt⟩
def vtTo (sq sz : Int) (rt : ByteArray) (fs : List Int) (k : Nat) : List Vo := (fs.take k).map (vtOf sq sz rt)
theorem vtTo_succ {sq sz : Int} {rt : ByteArray} {fs : List Int} {k : Nat} {f : Int} (h : fs[k]? = some f) : vtTo sq sz rt fs (k + 1) = vtTo sq sz rt fs k ++ [vtOf sq sz rt f] := by
  unfold vtTo
  rw [List.take_add_one, h, List.map_append]
  rfl
theorem vtTo_len {sq sz : Int} {rt : ByteArray} {fs : List Int} {k : Nat} (h : k ≤ fs.length) : (vtTo sq sz rt fs k).length = k := by unfold vtTo; rw [List.length_map, List.length_take]; omega
set_option maxRecDepth 100000 in
set_option maxHeartbeats 1600000 in
theorem withVotes_any (sq sz : Int) (rt : ByteArray) (u : Value) (fs : List Int) (w : World) (h : RowJ w u fs) (hl : fs.length ≤ 4096) (hN : ∀ f ∈ fs, ∃ i : Nat, f = i ∧ i < 7) (hs : rt.size ≤ 1000) (hK : KTab w) (hp : 10 < w.heap.size) :
    Calls Tryz.prog 70 #[stV sq sz rt (.slice none 0 0), u] w fun e w' => ∃ v, e = .returned (stV sq sz rt v) ∧ OwnV w' w.heap.size v (vtTo sq sz rt fs fs.length) ∧ Below w.heap.size w w' := by
  obtain ⟨i0, hi0, hz0, hz1, hz2⟩ := info_parts infoV
  have HR : Hid (RowJ w u fs) := h
  have HN : Hid (∀ f ∈ fs, ∃ i : Nat, f = i ∧ i < 7) := hN
  have GK : Hid (KTab w ∧ 10 < w.heap.size ∧ rt.size ≤ 1000) := ⟨hK, hp, hs⟩
  obtain ⟨a, cap, rfl, _⟩ := h
  have hB0 : Below w.heap.size w ((w.alloc (.cells #[.int .i64 sq, .int .i64 sz, .string rt, .slice none 0 0] 30)).alloc (.cells #[.int .i64 0, .int .i64 0, .string ⟨#[]⟩, .slice none 0 0] 30)) := ((Below.refl _ _).alloc (Nat.le_refl _) _).alloc (by simp) _
  have HV0 : Vb sq sz rt w ((w.alloc (.cells #[.int .i64 sq, .int .i64 sz, .string rt, .slice none 0 0] 30)).alloc (.cells #[.int .i64 0, .int .i64 0, .string ⟨#[]⟩, .slice none 0 0] 30)) w.heap.size (w.heap.size + 1) (w.heap.size + 1 + 1) (.slice none 0 0) [] := by
    refine ⟨?_, ?_, OwnV.nil _ _, hB0, by rw [size_new, size_new]; omega⟩
    · rw [Below.heap_alloc _ _ _ (by simp)]; exact heap_alloc_new w _
    · have := heap_alloc_new (w.alloc (.cells #[.int .i64 sq, .int .i64 sz, .string rt, .slice none 0 0] 30)) (.cells #[.int .i64 0, .int .i64 0, .string ⟨#[]⟩, .slice none 0 0] 30)
      rwa [size_new] at this
  clear hN hK hp hs hB0
  unfold stV
  go_enter Tryz.func70, Tryz.ntmps70
  go_upto_region 1 with fail
  generalize (w.alloc (.cells #[.int .i64 sq, .int .i64 sz, .string rt, .slice none 0 0] 30)).alloc (.cells #[.int .i64 0, .int .i64 0, .string ⟨#[]⟩, .slice none 0 0] 30) = wb at HV0 ⊢
  obtain ⟨x, HX⟩ : ∃ x, Hid (w.heap.size = x) := ⟨_, rfl⟩
  rw [HX.out] at HV0 ⊢
  obtain ⟨y, HY⟩ : ∃ y, Hid (x + 1 = y) := ⟨_, rfl⟩
  rw [HY.out] at HV0 ⊢
  obtain ⟨B, HBE⟩ : ∃ B, Hid (y + 1 = B) := ⟨_, rfl⟩
  rw [HBE.out] at HV0
  have HBB : Hid (w.heap.size ≤ B) := by show _ ≤ _; have := HX.out; have := HY.out; have := HBE.out; omega
  go_wp2_with fail
  go_loopw [9] (fun i wr => ∃ (k : Nat) (va : Option Addr) (vc : Nat), k ≤ fs.length ∧ i = .int .i64 k ∧ Hid (Vb sq sz rt w wr x y B (.slice va k vc) (vtTo sq sz rt fs k))) (fun i _ => fs.length - (intOf i).toNat)
  case atStart => exact ⟨0, none, 0, by omega, rfl, HV0⟩
  case round =>
    clear HV0
    obtain ⟨k, va, vc, hk, rfl, HV⟩ := hrel
    by_cases hlt : k < fs.length
    · obtain ⟨f, hf⟩ := Rg.get_at hlt
      obtain ⟨fb, foff, rfl, hfb, c0⟩ := (HR.out.below HV.out.gr).at hf
      obtain ⟨i, rfl, hi7⟩ := HN.out _ (List.mem_of_getElem? hf)
      have HEQ : Hid (vtTo sq sz rt fs (k + 1) = vtTo sq sz rt fs k ++ [⟨(i : Int), vmk i sq sz rt⟩]) := vtTo_succ hf
      have HLN : Hid ((vtTo sq sz rt fs k).length ≤ 1000000) := by show _ ≤ _; rw [vtTo_len hk]; omega
      have HLK : Hid ((vtTo sq sz rt fs k).length = k) := vtTo_len hk
      have HL5 : Hid ((vtTo sq sz rt fs (k + 1)).length = k + 1) := vtTo_len (by omega)
      have HVM : Hid (∀ W, Vb sq sz rt w W x y B (.slice va k vc) (vtTo sq sz rt fs k) → Calls Tryz.prog 108 #[.int .i64 i, .agg #[.int .i64 sq, .int .i64 sz, .string rt, .slice va k vc]] W fun e w' => e = .returned (.string (vmk i sq sz rt)) ∧ Vb sq sz rt w w' x y B (.slice va k vc) (vtTo sq sz rt fs k)) := fun W hW => (voteMark_any i sq sz rt _ W (by omega) GK.out.2.2 (GK.out.1.below hW.gr GK.out.2.1) (Nat.lt_of_lt_of_le GK.out.2.1 hW.gr.size)).mono fun e w' ⟨h1, h2⟩ => ⟨h1, hW.below h2⟩
      have HC0 : Hid (∀ W, Below w.heap.size w W → W.cell? ⟨fb, foff + k, none⟩ = some (.int .i64 i)) := fun W hW => by
        obtain ⟨b', off', e, _, q⟩ := (HR.out.below hW).at hf
        cases e
        exact q
      obtain ⟨ms2, HM2⟩ : ∃ ms2, Hid (vtTo sq sz rt fs (k + 1) = ms2) := ⟨_, rfl⟩
      obtain ⟨ms, HM1⟩ : ∃ ms, Hid (vtTo sq sz rt fs k = ms) := ⟨_, rfl⟩
      obtain ⟨mk, HMK⟩ : ∃ mk, Hid (vmk i sq sz rt = mk) := ⟨_, rfl⟩
      rw [HMK.out] at HEQ HVM
      rw [HM2.out] at HEQ HL5
      rw [HM1.out] at HLN HEQ HVM HV HLK
      rw [HLK.out] at HLN
      have t0 := HV.out
      obtain ⟨q0, q1, q2, q3⟩ := t0.cells
      clear HV hf HMK
      go_upto_region 4 with fail
      go_region_law
        (first
          | (go_simp; go_at_call 108; (with_reducible refine (HVM.out _ (by first | assumption | exact Vb.drew (by assumption))).mono ?_); rintro e wn ⟨rfl, tn⟩; obtain ⟨e0, e1, e2, e3⟩ := tn.cells; have ea := fun o => (Vb.alloc tn o).cells.2.2.2; have ec := HC0.out _ tn.gr; try go_simp)
          | (refine step_vb (by rfl) _ _ 28 (by rfl) Tryz.underlying28 hi0 hz0 hz1 hz2 sq sz rt _ w x y B _ ms ⟨(i : Int), mk⟩ (by rfl) _ (by rfl) (by first | exact heap_alloc_new _ _ | exact (heap_alloc_new _ _ : (World.alloc _ _).drew.heap[_]? = _)) (by first | assumption | exact Vb.drew (by assumption) | exact Vb.alloc (by assumption) _ | exact Vb.drew (Vb.alloc (by assumption) _) | exact Vb.alloc (Vb.drew (by assumption)) _) (by rw [HLK.out]; exact HLN.out) ?_; intro v5 w5 t5; obtain ⟨a5, cap5, rfl⟩ := t5.own.slice; obtain ⟨s5, f5⟩ := t5.cells; try go_simp))
      all_goals
        rw [← HEQ.out, HL5.out] at t5
        have T5 : Hid (Vb sq sz rt w (w5.setCell ⟨x, 3, none⟩ (.slice a5 (k + 1) cap5)) x y B (.slice a5 (k + 1) cap5) ms2) := t5.set
        rw [HLK.out]
        clear t5 t0 q0 q1 q2 q3
        go_wp2_with fail
        exact ⟨⟨k + 1, a5, cap5, by omega, by go_num, by rw [HM2.out]; exact T5⟩, by simp [intOf]; omega⟩
    · obtain rfl : k = fs.length := by omega
      have p0 := (blk_cell HV.out.hx 0 (x := .int .i64 sq) rfl).1
      have p1 := (blk_cell HV.out.hx 1 (x := .int .i64 sz) rfl).1
      have p2 := (blk_cell HV.out.hx 2 (x := .string rt) rfl).1
      have p3 := (blk_cell HV.out.hx 3 (x := .slice va fs.length vc) rfl).1
      obtain ⟨m0, n0⟩ := blk_cell HV.out.hy 0 (x := .int .i64 0) rfl
      obtain ⟨m1, n1⟩ := blk_cell HV.out.hy 1 (x := .int .i64 0) rfl
      obtain ⟨m2, n2⟩ := blk_cell HV.out.hy 2 (x := .string ⟨#[]⟩) rfl
      obtain ⟨m3, n3⟩ := blk_cell HV.out.hy 3 (x := .slice none 0 0) rfl
      have AF : ((((wr.setCell ⟨y, 0, none⟩ (.int .i64 sq)).setCell ⟨y, 1, none⟩ (.int .i64 sz)).setCell ⟨y, 2, none⟩ (.string rt)).setCell ⟨y, 3, none⟩ (.slice va fs.length vc)).heap[y]? = some (.cells #[.int .i64 sq, .int .i64 sz, .string rt, .slice va fs.length vc] 30 (0, 0)) := (blk_set (blk_set (blk_set (blk_set HV.out.hy 0 (.int .i64 sq)) 1 (.int .i64 sz)) 2 (.string rt)) 3 (.slice va fs.length vc))
      have RF : Hid (OwnV ((((wr.setCell ⟨y, 0, none⟩ (.int .i64 sq)).setCell ⟨y, 1, none⟩ (.int .i64 sz)).setCell ⟨y, 2, none⟩ (.string rt)).setCell ⟨y, 3, none⟩ (.slice va fs.length vc)) B (.slice va fs.length vc) (vtTo sq sz rt fs fs.length) ∧ Below w.heap.size w ((((wr.setCell ⟨y, 0, none⟩ (.int .i64 sq)).setCell ⟨y, 1, none⟩ (.int .i64 sz)).setCell ⟨y, 2, none⟩ (.string rt)).setCell ⟨y, 3, none⟩ (.slice va fs.length vc))) := ⟨HV.out.own.kept (fun g hg => ((blk_far (own_ne HV.out.own HV.out.hy g hg) 3 (.slice va fs.length vc)).trans ((blk_far (own_ne HV.out.own HV.out.hy g hg) 2 (.string rt)).trans ((blk_far (own_ne HV.out.own HV.out.hy g hg) 1 (.int .i64 sz)).trans ((blk_far (own_ne HV.out.own HV.out.hy g hg) 0 (.int .i64 sq)).trans (Eq.refl wr.heap[g]?)))))), (Below.setCell (Below.setCell (Below.setCell (Below.setCell HV.out.gr (p := ⟨y, 0, none⟩) (by show _ ≤ y; have := HV.out.lt; omega) (.int .i64 sq)) (p := ⟨y, 1, none⟩) (by show _ ≤ y; have := HV.out.lt; omega) (.int .i64 sz)) (p := ⟨y, 2, none⟩) (by show _ ≤ y; have := HV.out.lt; omega) (.string rt)) (p := ⟨y, 3, none⟩) (by show _ ≤ y; have := HV.out.lt; omega) (.slice va fs.length vc))⟩
      clear HV
      go_wp2_with fail
      generalize ((((wr.setCell ⟨y, 0, none⟩ (.int .i64 sq)).setCell ⟨y, 1, none⟩ (.int .i64 sz)).setCell ⟨y, 2, none⟩ (.string rt)).setCell ⟨y, 3, none⟩ (.slice va fs.length vc)) = wf at AF RF ⊢
      have d0 := (blk_cell AF 0 (x := .int .i64 sq) rfl).1
      have d1 := (blk_cell AF 1 (x := .int .i64 sz) rfl).1
      have d2 := (blk_cell AF 2 (x := .string rt) rfl).1
      have d3 := (blk_cell AF 3 (x := .slice va fs.length vc) rfl).1
      exact bodyPost_ret (v := stV sq sz rt (.slice va fs.length vc)) (by simp [stV, results, Tryz.results70, go_sem, d0, d1, d2, d3]) rfl ⟨_, rfl, RF.out.1.mono (by have := HBB.out; omega), RF.out.2⟩
end Go.Proofs.YtnebohdlndiejaaGreatDoor.Xo

/- MakeStable of the program. -/
namespace Go.Proofs.YtnebohdlndiejaaGreatDoor.Xo
open Go.RowKit Go.Proofs.YtnebohdlndiejaaGreatDoor.Sl Go.Proofs.YtnebohdlndiejaaGreatDoor.Rg Go.Proofs.YtnebohdlndiejaaGreatDoor.Xv
open Go.Proofs.YtnebohdlndiejaaGreatDoor.Gt (Vo)
open Go.Proofs.YtnebohdlndiejaaGreatDoor.Hs (stV)
open Go.Proofs.YtnebohdlndiejaaGreatDoor.Sh (KTab KTab.below)
open Go.Proofs.YtnebohdlndiejaaGreatDoor.Xq (RowJ RowJ.below RowJ.at)
open Go.Proofs.YtnebohdlndiejaaGreatDoor.Tb (Lk Sn Tab RowL RowS RowL.below RowS.below tabV)
open Go.Proofs.YtnebohdlndiejaaGreatDoor.Tp (TOK bOf bOf_true bOf_false)
open Go.Proofs.YtnebohdlndiejaaGreatDoor.Pt (tabBs Bnd tok_bnd lsBs lsBs_le ssBs ssBs_len tbOut tbCode)
open Go.Proofs.YtnebohdlndiejaaGreatDoor.Ps (l05Bytes_any)
open Go.Proofs.YtnebohdlndiejaaGreatDoor.Pu (nums nums_range nums_length)
open Go.Proofs.YtnebohdlndiejaaGreatDoor.Sl (RowB)
open Go.Proofs.YtnebohdlndiejaaGreatDoor.Ap (own_rowB)
open Go.Proofs.YtnebohdlndiejaaGreatDoor.Tx (RowT OwnS)
open Go.Proofs.YtnebohdlndiejaaGreatDoor.Pg (cutTo cutN cutL cutC cut_ok l09Cut_any implCutPieces_any pcn)
open Go.Proofs.YtnebohdlndiejaaGreatDoor.Py (rootF rootF_size l09Root_any rootOf_any)
open Go.Proofs.YtnebohdlndiejaaGreatDoor.Fz (range_append)



open Go.Proofs.YtnebohdlndiejaaGreatDoor.Er
open Go.Proofs.YtnebohdlndiejaaGreatDoor.Xq (qvB qv_iff isV isV_frn frn okN risingQuorum_any f_four)
open Go.Proofs.YtnebohdlndiejaaGreatDoor.Tm (fCode fOut implFaultsOf_any)
open Go.Proofs.YtnebohdlndiejaaGreatDoor.Rm (inR within_any)

/-- What MakeStable answers. -/
noncomputable def msC (n sq tm nx : Int) (ls : List Lk) (ss : List Sn) (fs : List Int) : Int := if 4096 < fs.length then 2 else if fCode n = 0 ∧ inR sq 0 65535 = true then (if bOf (TOK ⟨tm, nx, ls, ss⟩) = true then (if qvB n fs = true then 0 else 19) else 1) else 4
noncomputable def msQ (n sq tm nx : Int) (ls : List Lk) (ss : List Sn) (fs : List Int) : Int := if msC n sq tm nx ls ss fs = 0 then sq else 0
noncomputable def msZ (n sq tm nx : Int) (ls : List Lk) (ss : List Sn) (fs : List Int) : Int := if msC n sq tm nx ls ss fs = 0 then tN tm nx ls ss else 0
noncomputable def msR (n sq tm nx : Int) (ls : List Lk) (ss : List Sn) (fs : List Int) : ByteArray := if msC n sq tm nx ls ss fs = 0 then tR tm nx ls ss else ⟨#[]⟩
noncomputable def msL (n sq tm nx : Int) (ls : List Lk) (ss : List Sn) (fs : List Int) : List Vo := if msC n sq tm nx ls ss fs = 0 then vtTo sq (tN tm nx ls ss) (tR tm nx ls ss) fs fs.length else []
/-- The answer's parts, known. -/
structure Ms (n sq tm nx : Int) (ls : List Lk) (ss : List Sn) (fs : List Int) (c q z : Int) (r : ByteArray) (l : List Vo) : Prop where
  c : msC n sq tm nx ls ss fs = c
  q : msQ n sq tm nx ls ss fs = q
  z : msZ n sq tm nx ls ss fs = z
  r : msR n sq tm nx ls ss fs = r
  l : msL n sq tm nx ls ss fs = l
theorem ms_no {n sq tm nx : Int} {ls : List Lk} {ss : List Sn} {fs : List Int} {c : Int} (h : msC n sq tm nx ls ss fs = c) (hc : c ≠ 0) : Ms n sq tm nx ls ss fs c 0 0 ⟨#[]⟩ [] := by
  refine ⟨h, ?_, ?_, ?_, ?_⟩
  · unfold msQ; rw [h, if_neg hc]
  · unfold msZ; rw [h, if_neg hc]
  · unfold msR; rw [h, if_neg hc]
  · unfold msL; rw [h, if_neg hc]
theorem ms_yes {n sq tm nx : Int} {ls : List Lk} {ss : List Sn} {fs : List Int} (h : msC n sq tm nx ls ss fs = 0) : Ms n sq tm nx ls ss fs 0 sq (tN tm nx ls ss) (tR tm nx ls ss) (vtTo sq (tN tm nx ls ss) (tR tm nx ls ss) fs fs.length) := by
  refine ⟨h, ?_, ?_, ?_, ?_⟩
  · unfold msQ; rw [if_pos h]
  · unfold msZ; rw [if_pos h]
  · unfold msR; rw [if_pos h]
  · unfold msL; rw [if_pos h]
theorem q_nodes {n : Int} {fs : List Int} (h : qvB n fs = true) : ∀ f ∈ fs, ∃ i : Nat, f = i ∧ i < 7 := fun f hf => ⟨_, isV_frn ((qv_iff.1 h).2.2.1 f hf)⟩
set_option maxRecDepth 100000 in
set_option maxHeartbeats 1600000 in
theorem unvoted_any (tm nx : Int) (ls : List Lk) (ss : List Sn) (sq : Int) (v : Value) (w : World) (h : RowB w v (tabBs tm nx ls ss)) (ht : TOK ⟨tm, nx, ls, ss⟩) (hK : KTab w) (hp : 10 < w.heap.size) :
    Calls Tryz.prog 71 #[.int .i64 sq, v] w fun e w' => e = .returned (stV sq (tN tm nx ls ss) (tR tm nx ls ss) (.slice none 0 0)) ∧ Below w.heap.size w w' := by
  have hlen := tab_len (tm := tm) (nx := nx) (tok_bnd ht)
  have hco := cut_ok (xs := tabBs tm nx ls ss) (by omega)
  have HCU : Hid (∀ W, Below w.heap.size w W → Calls Tryz.prog 109 #[v] W fun e w' => ∃ v', e = .returned (.tuple #[v', .int .i64 0]) ∧ RowT w' v' (tL tm nx ls ss) ∧ Below W.heap.size W w') := fun W hW => (implCutPieces_any v _ W (h.below hW) (by omega)).mono fun e w' ⟨v', h1, h2, h3⟩ => ⟨v', by rw [h1, hco.1], by have := h2.row; rwa [hco.2] at this, h3⟩
  have HRO : Hid (∀ W u, Below w.heap.size w W → RowT W u (tL tm nx ls ss) → Calls Tryz.prog 110 #[u] W fun e w' => e = .returned (.string (tR tm nx ls ss)) ∧ Below W.heap.size W w') := fun W u hb hW => rootOf_any 64 _ u W hW (tL_some ht).1 (tL_some ht).2 (tL_some ht).2 (tL_small ht) (hK.below hb hp) (Nat.lt_of_lt_of_le hp hb.size)
  have hln := tL_len (tm := tm) (nx := nx) (ls := ls) (ss := ss)
  have HX0 : Hid (∀ W, Below (w.alloc (.cells #[.int .i64 0, .int .i64 0, .string ⟨#[]⟩, .slice none 0 0] 30)).heap.size (w.alloc (.cells #[.int .i64 0, .int .i64 0, .string ⟨#[]⟩, .slice none 0 0] 30)) W → W.heap[w.heap.size]? = some (.cells #[.int .i64 0, .int .i64 0, .string ⟨#[]⟩, .slice none 0 0] 30) ∧ Below w.heap.size w W) := fun W hW => ⟨(hW.block w.heap.size (by simp)).trans (heap_alloc_new w _), (bel_new w (.cells #[.int .i64 0, .int .i64 0, .string ⟨#[]⟩, .slice none 0 0] 30)).trans (hW.mono (by simp))⟩
  generalize tR tm nx ls ss = rt at HRO ⊢
  generalize tN tm nx ls ss = sz at hln ⊢
  generalize tL tm nx ls ss = pcs at HCU HRO hln
  have HLN0 : Hid ((pcs.length : Int) = sz) := hln
  clear h ht hK hp hlen hco hln
  unfold stV
  go_enter Tryz.func71, Tryz.ntmps71
  go_upto_region 1 with fail
  generalize w.alloc (.cells #[.int .i64 0, .int .i64 0, .string ⟨#[]⟩, .slice none 0 0] 30) = wb at HX0 ⊢
  have G0 : Hid (Below w.heap.size w wb) := (HX0.out _ (Below.refl _ _)).2
  go_wp2_with fail
  refine (HCU.out _ G0.out).mono ?_
  rintro e w1 ⟨v1, rfl, r1, b1⟩
  have R1 : Hid (RowT w1 v1 pcs ∧ Below wb.heap.size wb w1) := ⟨r1, b1⟩
  obtain ⟨pa, pc, rfl, _⟩ := r1
  clear b1
  go_wp2_with fail
  refine (HRO.out _ _ (HX0.out _ R1.out.2).2 R1.out.1).mono ?_
  rintro e w2 ⟨rfl, b2⟩
  have B2 : Hid (Below wb.heap.size wb w2) := R1.out.2.trans (b2.mono R1.out.2.size)
  clear b2 R1
  rw [HLN0.out]
  obtain ⟨k2, g2⟩ := HX0.out _ B2.out
  obtain ⟨y, HY⟩ : ∃ y, Hid (w.heap.size = y) := ⟨_, rfl⟩
  rw [HY.out] at k2 ⊢
  obtain ⟨m0, n0⟩ := blk_cell k2 0 (x := .int .i64 0) rfl
  obtain ⟨m1, n1⟩ := blk_cell k2 1 (x := .int .i64 0) rfl
  obtain ⟨m2, n2⟩ := blk_cell k2 2 (x := .string ⟨#[]⟩) rfl
  obtain ⟨m3, n3⟩ := blk_cell k2 3 (x := .slice none 0 0) rfl
  have AF : ((((w2.setCell ⟨y, 0, none⟩ (.int .i64 sq)).setCell ⟨y, 1, none⟩ (.int .i64 sz)).setCell ⟨y, 2, none⟩ (.string rt)).setCell ⟨y, 3, none⟩ (.slice none 0 0)).heap[y]? = some (.cells #[.int .i64 sq, .int .i64 sz, .string rt, .slice none 0 0] 30 (0, 0)) := (blk_set (blk_set (blk_set (blk_set k2 0 (.int .i64 sq)) 1 (.int .i64 sz)) 2 (.string rt)) 3 (.slice none 0 0))
  have RF : Hid (Below w.heap.size w ((((w2.setCell ⟨y, 0, none⟩ (.int .i64 sq)).setCell ⟨y, 1, none⟩ (.int .i64 sz)).setCell ⟨y, 2, none⟩ (.string rt)).setCell ⟨y, 3, none⟩ (.slice none 0 0))) := (Below.setCell (Below.setCell (Below.setCell (Below.setCell g2 (p := ⟨y, 0, none⟩) (Nat.le_of_eq HY.out) (.int .i64 sq)) (p := ⟨y, 1, none⟩) (Nat.le_of_eq HY.out) (.int .i64 sz)) (p := ⟨y, 2, none⟩) (Nat.le_of_eq HY.out) (.string rt)) (p := ⟨y, 3, none⟩) (Nat.le_of_eq HY.out) (.slice none 0 0))
  clear g2 k2
  go_wp2_with fail
  generalize ((((w2.setCell ⟨y, 0, none⟩ (.int .i64 sq)).setCell ⟨y, 1, none⟩ (.int .i64 sz)).setCell ⟨y, 2, none⟩ (.string rt)).setCell ⟨y, 3, none⟩ (.slice none 0 0)) = wf at AF RF ⊢
  have d0 := (blk_cell AF 0 (x := .int .i64 sq) rfl).1
  have d1 := (blk_cell AF 1 (x := .int .i64 sz) rfl).1
  have d2 := (blk_cell AF 2 (x := .string rt) rfl).1
  have d3 := (blk_cell AF 3 (x := .slice none 0 0) rfl).1
  exact bodyPost_ret (v := stV sq sz rt (.slice none 0 0)) (by simp [stV, results, Tryz.results71, go_sem, d0, d1, d2, d3]) rfl ⟨rfl, RF.out⟩
set_option maxRecDepth 100000 in
set_option maxHeartbeats 1600000 in
theorem nodesFault_nil (n : Int) (w : World) (h : fCode n = 0) : Calls Tryz.prog 65 #[.int .i64 n] w fun e w' => e = .returned .nilIface ∧ Below w.heap.size w w' := by
  have HF := implFaultsOf_any n w
  rw [h] at HF
  clear h
  go_enter Tryz.func65, Tryz.ntmps65
  go_wp2_with fail
  refine HF.mono ?_
  rintro e w1 ⟨rfl, hw⟩
  rw [hw]
  clear hw HF
  go_wp2_with fail
  refine (faultOfCode_nil _ w).mono ?_
  rintro e w2 ⟨rfl, b2⟩
  go_wp2_with fail
  go_ret
  exact ⟨rfl, b2⟩
def tNo : ByteArray := ⟨#[110, 111, 100, 101, 115]⟩
def tTa : ByteArray := ⟨#[116, 97, 98, 108, 101]⟩
def tVo : ByteArray := ⟨#[118, 111, 116, 101, 114, 115]⟩
def tSq : ByteArray := ⟨#[115, 101, 113]⟩
set_option maxRecDepth 100000 in
set_option maxHeartbeats 1600000 in
theorem nodesFault_bad (n : Int) {w : World} {A : Nat → Addr} (h : ¬ fCode n = 0) (hS : Sen w A) : Calls Tryz.prog 65 #[.int .i64 n] w fun e w' => e = .returned (fnd tNo (sen (A 2))) ∧ Below w.heap.size w w' := by
  have HF := implFaultsOf_any n w
  rw [f_four h] at HF
  have HC : Hid (Calls Tryz.prog 68 #[.string tNo, .int .i64 4] w fun e w' => e = .returned (fnd tNo (sen (A 2))) ∧ Below w.heap.size w w') := faultOfCode_any tNo 4 (by decide) hS
  generalize fnd tNo (sen (A 2)) = ev at HC ⊢
  unfold tNo at HC
  clear h hS
  go_enter Tryz.func65, Tryz.ntmps65
  go_wp2_with fail
  refine HF.mono ?_
  rintro e w1 ⟨rfl, hw⟩
  rw [hw]
  clear hw HF
  go_wp2_with fail
  refine HC.out.mono ?_
  rintro e w2 ⟨rfl, b2⟩
  go_wp2_with fail
  go_ret
  exact ⟨rfl, b2⟩
set_option maxRecDepth 100000 in
set_option maxHeartbeats 3200000 in
theorem votedTable_any (n sq tm nx : Int) (vl vs : Value) (ls : List Lk) (ss : List Sn) (u : Value) (fs : List Int) (w : World) (A : Nat → Addr) (hL : RowL w vl ls) (hS : RowS w vs ss) (hw : ∀ x ∈ ls, x.n.size ≤ 1048576 ∧ x.ws.length ≤ 1048576) (hy1 : ls.length ≤ 1048576) (hy2 : ss.length ≤ 1048576) (h : RowJ w u fs) (hfl : fs.length ≤ 1048576) (hSe : Sen w A) (hK : KTab w) (hp : 10 < w.heap.size) :
    Calls Tryz.prog 35 #[.int .i64 n, .int .i64 sq, tabV tm nx vl vs, u] w fun e w' => ∃ v er, e = .returned (.tuple #[stV (msQ n sq tm nx ls ss fs) (msZ n sq tm nx ls ss fs) (msR n sq tm nx ls ss fs) v, er]) ∧ ((msC n sq tm nx ls ss fs = 0 ∧ er = .nilIface) ∨ ∃ s j, j < 8 ∧ er = fnd s (sen (A j)) ∧ fcode j = msC n sq tm nx ls ss fs) ∧ OwnV w' w.heap.size v (msL n sq tm nx ls ss fs) ∧ Below w.heap.size w w' := by
  have hu := h
  obtain ⟨a, cap, rfl, _⟩ := h
  obtain ⟨la, lc, rfl⟩ := Tb.RowG.slice hL
  obtain ⟨sa, sc, rfl⟩ := Tb.RowG.slice hS
  have e2 : ((w.alloc (.cells #[.int .i64 tm, .int .i64 nx, .slice la ls.length lc, .slice sa ss.length sc] 36)).alloc (.cells #[.int .i64 0, .int .i64 0, .string ⟨#[]⟩, .slice none 0 0] 30)).heap.size = w.heap.size + 1 + 1 := by rw [size_new, size_new]
  have HX0 : Hid (∀ W, Below ((w.alloc (.cells #[.int .i64 tm, .int .i64 nx, .slice la ls.length lc, .slice sa ss.length sc] 36)).alloc (.cells #[.int .i64 0, .int .i64 0, .string ⟨#[]⟩, .slice none 0 0] 30)).heap.size ((w.alloc (.cells #[.int .i64 tm, .int .i64 nx, .slice la ls.length lc, .slice sa ss.length sc] 36)).alloc (.cells #[.int .i64 0, .int .i64 0, .string ⟨#[]⟩, .slice none 0 0] 30)) W → (W.cell? ⟨w.heap.size, 0, none⟩ = some (.int .i64 tm) ∧ W.cell? ⟨w.heap.size, 1, none⟩ = some (.int .i64 nx) ∧ W.cell? ⟨w.heap.size, 2, none⟩ = some (.slice la ls.length lc) ∧ W.cell? ⟨w.heap.size, 3, none⟩ = some (.slice sa ss.length sc))) := fun W hW => by
    have h0 : W.heap[w.heap.size]? = some (.cells #[.int .i64 tm, .int .i64 nx, .slice la ls.length lc, .slice sa ss.length sc] 36) := by rw [hW.block _ (by omega), Below.heap_alloc _ _ _ (by rw [size_new]; omega)]; exact heap_alloc_new w _
    exact ⟨(blk_cell h0 0 rfl).1, (blk_cell h0 1 rfl).1, (blk_cell h0 2 rfl).1, (blk_cell h0 3 rfl).1⟩
  have HY0 : Hid (∀ W, Below ((w.alloc (.cells #[.int .i64 tm, .int .i64 nx, .slice la ls.length lc, .slice sa ss.length sc] 36)).alloc (.cells #[.int .i64 0, .int .i64 0, .string ⟨#[]⟩, .slice none 0 0] 30)).heap.size ((w.alloc (.cells #[.int .i64 tm, .int .i64 nx, .slice la ls.length lc, .slice sa ss.length sc] 36)).alloc (.cells #[.int .i64 0, .int .i64 0, .string ⟨#[]⟩, .slice none 0 0] 30)) W → W.heap[w.heap.size + 1]? = some (.cells #[.int .i64 0, .int .i64 0, .string ⟨#[]⟩, .slice none 0 0] 30) ∧ Below w.heap.size w W) := fun W hW => by
    have h1 : W.heap[w.heap.size + 1]? = some (.cells #[.int .i64 0, .int .i64 0, .string ⟨#[]⟩, .slice none 0 0] 30) := by rw [hW.block _ (by omega)]; have := heap_alloc_new (w.alloc (.cells #[.int .i64 tm, .int .i64 nx, .slice la ls.length lc, .slice sa ss.length sc] 36)) (.cells #[.int .i64 0, .int .i64 0, .string ⟨#[]⟩, .slice none 0 0] 30); rwa [size_new] at this
    exact ⟨h1, (((Below.refl w.heap.size w).alloc (Nat.le_refl _) _).alloc (by rw [size_new]; omega) _).trans (hW.mono (by omega))⟩
  have HSE0 : Hid (∀ W, Below w.heap.size w W → Sen W A) := fun W hW => hSe.below hW
  have HTB : Hid (∀ W, Below w.heap.size w W → Calls Tryz.prog 67 #[tabV tm nx (.slice la ls.length lc) (.slice sa ss.length sc)] W fun e w' => ∃ v, e = .returned (.tuple #[v, .int .i64 (tbCode tm nx ls ss)]) ∧ (TOK ⟨tm, nx, ls, ss⟩ → RowB w' v (tabBs tm nx ls ss)) ∧ Below W.heap.size W w') := fun W hW => (Pt.implTableBytes_any tm nx _ _ ls ss W (hL.below hW) (hS.below hW) hw hy1 hy2).mono fun e w' ⟨v, h1, h2, h3⟩ => ⟨v, h1, fun ht => by have := own_rowB h2 (by unfold tbOut; rw [bOf_true ht]; exact tab_range tm nx ls ss); unfold tbOut at this; rwa [bOf_true ht] at this, h3⟩
  have HRQ : Hid (∀ W, Below w.heap.size w W → Calls Tryz.prog 69 #[.int .i64 n, .slice a fs.length cap] W fun e w' => e = .returned (.bool (qvB n fs)) ∧ W = w') := fun W hW => risingQuorum_any n _ fs W (hu.below hW) (by omega)
  have HUN : Hid (∀ W v, TOK ⟨tm, nx, ls, ss⟩ → Below w.heap.size w W → RowB W v (tabBs tm nx ls ss) → Calls Tryz.prog 71 #[.int .i64 sq, v] W fun e w' => e = .returned (stV sq (tN tm nx ls ss) (tR tm nx ls ss) (.slice none 0 0)) ∧ Below W.heap.size W w') := fun W v ht hW hv => unvoted_any tm nx ls ss sq v W hv ht (hK.below hW hp) (Nat.lt_of_lt_of_le hp hW.size)
  have HWV : Hid (∀ W, TOK ⟨tm, nx, ls, ss⟩ → qvB n fs = true → fs.length ≤ 4096 → Below w.heap.size w W → Calls Tryz.prog 70 #[stV sq (tN tm nx ls ss) (tR tm nx ls ss) (.slice none 0 0), .slice a fs.length cap] W fun e w' => ∃ v, e = .returned (stV sq (tN tm nx ls ss) (tR tm nx ls ss) v) ∧ OwnV w' w.heap.size v (vtTo sq (tN tm nx ls ss) (tR tm nx ls ss) fs fs.length) ∧ Below W.heap.size W w') := fun W ht hq hl hW => (withVotes_any sq _ _ _ fs W (hu.below hW) hl (q_nodes hq) (tR_size ht) (hK.below hW hp) (Nat.lt_of_lt_of_le hp hW.size)).mono fun e w' ⟨v, h1, h2, h3⟩ => ⟨v, h1, h2.mono hW.size, h3⟩
  have HYL0 : Hid (w.heap.size ≤ w.heap.size + 1) := Nat.le_succ _
  have HYG0 : Hid (0 ≠ w.heap.size + 1) := by show _ ≠ _; have := World.block_lt_of_cell? w _ hSe.g0; simp only at this; omega
  have HYG2 : Hid (1 ≠ w.heap.size + 1) := by show _ ≠ _; have := World.block_lt_of_cell? w _ hSe.g2; simp only at this; omega
  have HYG6 : Hid (2 ≠ w.heap.size + 1) := by show _ ≠ _; have := World.block_lt_of_cell? w _ hSe.g6; simp only at this; omega
  have hMS : msC n sq tm nx ls ss fs = if 4096 < fs.length then 2 else if fCode n = 0 ∧ inR sq 0 65535 = true then (if bOf (TOK ⟨tm, nx, ls, ss⟩) = true then (if qvB n fs = true then 0 else 19) else 1) else 4 := rfl
  clear hL hS hw hy1 hy2 hu hSe hK hp e2
  unfold tabV at HTB ⊢
  by_cases h1 : 4096 < fs.length
  · have h1' : (4096 : Int) < (fs.length : Int) := by omega
    rw [if_pos h1] at hMS
    have HM : Hid (Ms n sq tm nx ls ss fs 2 0 0 ⟨#[]⟩ []) := ms_no hMS (by decide)
    clear hMS h1 HTB HRQ HUN HWV
    go_enter Tryz.func35, Tryz.ntmps35
    go_upto_region 1 with fail
    generalize (w.alloc (.cells #[.int .i64 tm, .int .i64 nx, .slice la ls.length lc, .slice sa ss.length sc] 36)).alloc (.cells #[.int .i64 0, .int .i64 0, .string ⟨#[]⟩, .slice none 0 0] 30) = wb at HX0 HY0 ⊢
    obtain ⟨y, HY⟩ : ∃ y, Hid (w.heap.size + 1 = y) := ⟨_, rfl⟩
    rw [HY.out] at HY0 HYL0 HYG0 HYG2 HYG6 ⊢
    have HYL : Hid (w.heap.size ≤ y) := HYL0
    have HSE : Hid (∀ W, Below wb.heap.size wb W → Sen W A) := fun W hW => HSE0.out _ (HY0.out _ hW).2
    clear HYL0
    obtain ⟨k9, g9⟩ := HY0.out _ (Below.refl _ _)
    obtain ⟨m0, n0⟩ := blk_cell k9 0 (x := .int .i64 0) rfl
    obtain ⟨m1, n1⟩ := blk_cell k9 1 (x := .int .i64 0) rfl
    obtain ⟨m2, n2⟩ := blk_cell k9 2 (x := .string ⟨#[]⟩) rfl
    obtain ⟨m3, n3⟩ := blk_cell k9 3 (x := .slice none 0 0) rfl
    have AF : ((((wb.setCell ⟨y, 0, none⟩ (.int .i64 0)).setCell ⟨y, 1, none⟩ (.int .i64 0)).setCell ⟨y, 2, none⟩ (.string ⟨#[]⟩)).setCell ⟨y, 3, none⟩ (.slice none 0 0)).heap[y]? = some (.cells #[.int .i64 0, .int .i64 0, .string ⟨#[]⟩, .slice none 0 0] 30 (0, 0)) := (blk_set (blk_set (blk_set (blk_set k9 0 (.int .i64 0)) 1 (.int .i64 0)) 2 (.string ⟨#[]⟩)) 3 (.slice none 0 0))
    have RF : Hid (Below w.heap.size w ((((wb.setCell ⟨y, 0, none⟩ (.int .i64 0)).setCell ⟨y, 1, none⟩ (.int .i64 0)).setCell ⟨y, 2, none⟩ (.string ⟨#[]⟩)).setCell ⟨y, 3, none⟩ (.slice none 0 0)) ∧ OwnV ((((wb.setCell ⟨y, 0, none⟩ (.int .i64 0)).setCell ⟨y, 1, none⟩ (.int .i64 0)).setCell ⟨y, 2, none⟩ (.string ⟨#[]⟩)).setCell ⟨y, 3, none⟩ (.slice none 0 0)) w.heap.size (.slice none 0 0) []) := ⟨(Below.setCell (Below.setCell (Below.setCell (Below.setCell g9 (p := ⟨y, 0, none⟩) (HYL.out) (.int .i64 0)) (p := ⟨y, 1, none⟩) (HYL.out) (.int .i64 0)) (p := ⟨y, 2, none⟩) (HYL.out) (.string ⟨#[]⟩)) (p := ⟨y, 3, none⟩) (HYL.out) (.slice none 0 0)), OwnV.nil _ _⟩
    clear g9 k9
    have GS := (HSE.out _ (Below.refl _ _)).g0
    unfold sen at GS
    have GS9 : Hid (((((wb.setCell ⟨y, 0, none⟩ (.int .i64 0)).setCell ⟨y, 1, none⟩ (.int .i64 0)).setCell ⟨y, 2, none⟩ (.string ⟨#[]⟩)).setCell ⟨y, 3, none⟩ (.slice none 0 0)).cell? ⟨0, 0, none⟩ = some (.iface 259 (.pointer (some (A 0))))) := ((World.cell?_of_block (a := ⟨0, 0, none⟩) (blk_far HYG0.out 3 (.slice none 0 0))).trans ((World.cell?_of_block (a := ⟨0, 0, none⟩) (blk_far HYG0.out 2 (.string ⟨#[]⟩))).trans ((World.cell?_of_block (a := ⟨0, 0, none⟩) (blk_far HYG0.out 1 (.int .i64 0))).trans ((World.cell?_of_block (a := ⟨0, 0, none⟩) (blk_far HYG0.out 0 (.int .i64 0))).trans GS))))
    go_upto_region 2 with fail
    refine wp_region_noPanic ?_
    refine wp_region_held_drew (S := (fun W => W.cell? ⟨0, 0, none⟩ = some (.iface 259 (.pointer (some (A 0)))))) (by kernel_rfl) GS (fun hHeld => ?_)
    refine wpAnyH_take (i := 0) (oi := { dst := some 17, op := Go.Op.build 30 #[], type := 30, pos := "l10_checkpoint.go:169", after := #[], guard := none }) (v := ?v1) rfl (by kernel_rfl) (by kernel_rfl) (by kernel_rfl) (fun _ _ _ h => h) (Or.inl ⟨by rfl, ?h1⟩) hHeld ?r1
    case h1 => intro wz hz; (try dsimp only at hz); go_simp; try (with_reducible rfl)
    simp only [Act.put, List.setIfInBounds_toArray, List.set_cons_zero, List.set_cons_succ]
    refine wpAnyH_take (i := 1) (oi := { dst := some 18, op := Go.Op.load 68 (Go.Operand.global 0), type := 68, pos := "l10_checkpoint.go:169", after := #[], guard := none }) (v := ?v2) rfl (by kernel_rfl) (by kernel_rfl) (by kernel_rfl) (fun _ _ _ h => h) (Or.inl ⟨by rfl, ?h2⟩) hHeld ?r2
    case h2 => intro wz hz; (try dsimp only at hz); go_simp; try (with_reducible rfl)
    simp only [Act.put, List.setIfInBounds_toArray, List.set_cons_zero, List.set_cons_succ]
    refine wpAnyH_take (i := 2) (oi := { dst := some 19, op := Go.Op.build 119 #[(0, Go.Operand.const (Go.Value.string { data := #[118, 111, 116, 101, 114, 115] })), (1, Go.Operand.tmp 18)], type := 119, pos := "l10_checkpoint.go:169", after := #[{ on := 1, ground := Go.Ground.data }], guard := none }) (v := ?v3) rfl (by kernel_rfl) (by kernel_rfl) (by kernel_rfl) (fun _ _ _ h => h) (Or.inl ⟨by rfl, ?h3⟩) hHeld ?r3
    case h3 => intro wz hz; (try dsimp only at hz); go_simp; try (with_reducible rfl)
    simp only [Act.put, List.setIfInBounds_toArray, List.set_cons_zero, List.set_cons_succ]
    refine wpAnyH_take (i := 3) (oi := { dst := some 20, op := Go.Op.makeInterface 119 (Go.Operand.tmp 19), type := 68, pos := "l10_checkpoint.go:169", after := #[{ on := 2, ground := Go.Ground.data }, { on := 4, ground := Go.Ground.gcOnly Go.Departure.lateStores }], guard := none }) (v := ?v4) rfl (by kernel_rfl) (by kernel_rfl) (by kernel_rfl) (fun _ _ _ h => h) (Or.inl ⟨by rfl, ?h4⟩) hHeld ?r4
    case h4 => intro wz hz; (try dsimp only at hz); go_simp; try (with_reducible rfl)
    simp only [Act.put, List.setIfInBounds_toArray, List.set_cons_zero, List.set_cons_succ]
    refine wpAnyH_ready (rs := [4]) (by kernel_rfl) (by simp) ?_
    refine AllReadyH.cons (o := { dst := none, op := Go.Op.store 30 (Go.Operand.tmp 8) (Go.Operand.tmp 17), type := 0, pos := "l10_checkpoint.go:169", after := #[{ on := 0, ground := Go.Ground.data }, { on := 0, ground := Go.Ground.phase }, { on := 1, ground := Go.Ground.textOnly Go.Departure.lateStores }, { on := 2, ground := Go.Ground.textOnly Go.Departure.lateStores }, { on := 3, ground := Go.Ground.textOnly Go.Departure.lateStores }], guard := none }) rfl (fun K hK => ?_) AllReadyH.nil
    go_simp
    refine hK.out _ _ ?_ (fun hHeld => ?_)
    · exact GS9.out
    clear hK K
    (try simp only [Act.put, List.setIfInBounds_toArray, List.set_cons_zero, List.set_cons_succ])
    refine wpAnyH_take (i := 5) (oi := { dst := some 9, op := Go.Op.assign (Go.Operand.tmp 20), type := 68, pos := "l10_checkpoint.go:169", after := #[{ on := 3, ground := Go.Ground.data }, { on := 4, ground := Go.Ground.chain }, { on := 0, ground := Go.Ground.phase }, { on := 1, ground := Go.Ground.phase }, { on := 2, ground := Go.Ground.phase }, { on := 3, ground := Go.Ground.phase }, { on := 4, ground := Go.Ground.phase }], guard := none }) (v := ?v5) rfl (by kernel_rfl) (by kernel_rfl) (by kernel_rfl) (fun _ _ _ h => h) (Or.inl ⟨by rfl, ?h5⟩) hHeld ?r5
    case h5 => intro wz hz; (try dsimp only at hz); go_simp; try (with_reducible rfl)
    simp only [Act.put, List.setIfInBounds_toArray, List.set_cons_zero, List.set_cons_succ]
    refine wpAnyH_done (by kernel_rfl) ?_ _
    refine NoPanic.normal ?_
    clear GS9
    go_wp2_with fail
    generalize ((((wb.setCell ⟨y, 0, none⟩ (.int .i64 0)).setCell ⟨y, 1, none⟩ (.int .i64 0)).setCell ⟨y, 2, none⟩ (.string ⟨#[]⟩)).setCell ⟨y, 3, none⟩ (.slice none 0 0)) = wf at AF RF ⊢
    have d0 := (blk_cell AF 0 (x := .int .i64 0) rfl).1
    have d1 := (blk_cell AF 1 (x := .int .i64 0) rfl).1
    have d2 := (blk_cell AF 2 (x := .string ⟨#[]⟩) rfl).1
    have d3 := (blk_cell AF 3 (x := .slice none 0 0) rfl).1
    refine bodyPost_ret (v := .tuple #[.agg #[.int .i64 0, .int .i64 0, .string ⟨#[]⟩, .slice none 0 0], .iface 119 (.agg #[.string ⟨#[118, 111, 116, 101, 114, 115]⟩, .iface 259 (.pointer (some (A 0)))])]) (by simp [results, Tryz.results35, go_sem, d0, d1, d2, d3]) rfl ?_
    rw [HM.out.c, HM.out.q, HM.out.z, HM.out.r, HM.out.l]
    exact ⟨_, _, rfl, .inr ⟨_, 0, by decide, rfl, rfl⟩, OwnV.nil _ _, RF.out.1.drew⟩
  have h1' : ¬ (4096 : Int) < (fs.length : Int) := by omega
  rw [if_neg h1] at hMS
  go_enter Tryz.func35, Tryz.ntmps35
  go_upto_region 1 with fail
  generalize (w.alloc (.cells #[.int .i64 tm, .int .i64 nx, .slice la ls.length lc, .slice sa ss.length sc] 36)).alloc (.cells #[.int .i64 0, .int .i64 0, .string ⟨#[]⟩, .slice none 0 0] 30) = wb at HX0 HY0 ⊢
  obtain ⟨y, HY⟩ : ∃ y, Hid (w.heap.size + 1 = y) := ⟨_, rfl⟩
  rw [HY.out] at HY0 HYL0 HYG0 HYG2 HYG6 ⊢
  have HYL : Hid (w.heap.size ≤ y) := HYL0
  have HSE : Hid (∀ W, Below wb.heap.size wb W → Sen W A) := fun W hW => HSE0.out _ (HY0.out _ hW).2
  clear HYL0
  have G0 : Hid (Below w.heap.size w wb) := (HY0.out _ (Below.refl _ _)).2
  by_cases hn : fCode n = 0
  case neg =>
    rw [if_neg (fun hh => hn hh.1)] at hMS
    have HM : Hid (Ms n sq tm nx ls ss fs 4 0 0 ⟨#[]⟩ []) := ms_no hMS (by decide)
    have HNF := nodesFault_bad n hn (HSE.out wb (Below.refl _ _))
    unfold fnd sen at HNF
    clear hMS hn HTB HRQ HUN HWV
    go_wp2_with fail
    refine HNF.mono ?_
    rintro e w1 ⟨rfl, b1⟩
    obtain ⟨k9, g9⟩ := HY0.out _ (b1)
    obtain ⟨m0, n0⟩ := blk_cell k9 0 (x := .int .i64 0) rfl
    obtain ⟨m1, n1⟩ := blk_cell k9 1 (x := .int .i64 0) rfl
    obtain ⟨m2, n2⟩ := blk_cell k9 2 (x := .string ⟨#[]⟩) rfl
    obtain ⟨m3, n3⟩ := blk_cell k9 3 (x := .slice none 0 0) rfl
    have AF : ((((w1.setCell ⟨y, 0, none⟩ (.int .i64 0)).setCell ⟨y, 1, none⟩ (.int .i64 0)).setCell ⟨y, 2, none⟩ (.string ⟨#[]⟩)).setCell ⟨y, 3, none⟩ (.slice none 0 0)).heap[y]? = some (.cells #[.int .i64 0, .int .i64 0, .string ⟨#[]⟩, .slice none 0 0] 30 (0, 0)) := (blk_set (blk_set (blk_set (blk_set k9 0 (.int .i64 0)) 1 (.int .i64 0)) 2 (.string ⟨#[]⟩)) 3 (.slice none 0 0))
    have RF : Hid (Below w.heap.size w ((((w1.setCell ⟨y, 0, none⟩ (.int .i64 0)).setCell ⟨y, 1, none⟩ (.int .i64 0)).setCell ⟨y, 2, none⟩ (.string ⟨#[]⟩)).setCell ⟨y, 3, none⟩ (.slice none 0 0)) ∧ OwnV ((((w1.setCell ⟨y, 0, none⟩ (.int .i64 0)).setCell ⟨y, 1, none⟩ (.int .i64 0)).setCell ⟨y, 2, none⟩ (.string ⟨#[]⟩)).setCell ⟨y, 3, none⟩ (.slice none 0 0)) w.heap.size (.slice none 0 0) []) := ⟨(Below.setCell (Below.setCell (Below.setCell (Below.setCell g9 (p := ⟨y, 0, none⟩) (HYL.out) (.int .i64 0)) (p := ⟨y, 1, none⟩) (HYL.out) (.int .i64 0)) (p := ⟨y, 2, none⟩) (HYL.out) (.string ⟨#[]⟩)) (p := ⟨y, 3, none⟩) (HYL.out) (.slice none 0 0)), OwnV.nil _ _⟩
    clear g9 k9
    go_wp2_with fail
    generalize ((((w1.setCell ⟨y, 0, none⟩ (.int .i64 0)).setCell ⟨y, 1, none⟩ (.int .i64 0)).setCell ⟨y, 2, none⟩ (.string ⟨#[]⟩)).setCell ⟨y, 3, none⟩ (.slice none 0 0)) = wf at AF RF ⊢
    have d0 := (blk_cell AF 0 (x := .int .i64 0) rfl).1
    have d1 := (blk_cell AF 1 (x := .int .i64 0) rfl).1
    have d2 := (blk_cell AF 2 (x := .string ⟨#[]⟩) rfl).1
    have d3 := (blk_cell AF 3 (x := .slice none 0 0) rfl).1
    refine bodyPost_ret (v := .tuple #[.agg #[.int .i64 0, .int .i64 0, .string ⟨#[]⟩, .slice none 0 0], .iface 119 (.agg #[.string tNo, .iface 259 (.pointer (some (A 2)))])]) (by simp [results, Tryz.results35, go_sem, d0, d1, d2, d3]) rfl ?_
    rw [HM.out.c, HM.out.q, HM.out.z, HM.out.r, HM.out.l]
    exact ⟨_, _, rfl, .inr ⟨tNo, 2, by decide, rfl, rfl⟩, RF.out.2, RF.out.1⟩
  case pos =>
  have HNF := nodesFault_nil n wb hn
  go_wp2_with fail
  refine HNF.mono ?_
  rintro e w1 ⟨rfl, b1⟩
  have B1 : Hid (Below wb.heap.size wb w1) := b1
  clear b1 HNF
  have HWI := within_any sq 0 65535 w1
  cases hsq : inR sq 0 65535
  case false =>
    rw [if_neg (fun hh => by rw [hsq] at hh; cases hh.2)] at hMS
    have HM : Hid (Ms n sq tm nx ls ss fs 4 0 0 ⟨#[]⟩ []) := ms_no hMS (by decide)
    rw [hsq] at HWI
    clear hMS hn hsq HTB HRQ HUN HWV
    go_upto_region 6 with fail
    go_upto_region 7 with (go_at_call 66; refine HWI.mono ?_; rintro e w2 ⟨rfl, rfl⟩)
    obtain ⟨k9, g9⟩ := HY0.out _ (B1.out)
    obtain ⟨m0, n0⟩ := blk_cell k9 0 (x := .int .i64 0) rfl
    obtain ⟨m1, n1⟩ := blk_cell k9 1 (x := .int .i64 0) rfl
    obtain ⟨m2, n2⟩ := blk_cell k9 2 (x := .string ⟨#[]⟩) rfl
    obtain ⟨m3, n3⟩ := blk_cell k9 3 (x := .slice none 0 0) rfl
    have AF : ((((w1.setCell ⟨y, 0, none⟩ (.int .i64 0)).setCell ⟨y, 1, none⟩ (.int .i64 0)).setCell ⟨y, 2, none⟩ (.string ⟨#[]⟩)).setCell ⟨y, 3, none⟩ (.slice none 0 0)).heap[y]? = some (.cells #[.int .i64 0, .int .i64 0, .string ⟨#[]⟩, .slice none 0 0] 30 (0, 0)) := (blk_set (blk_set (blk_set (blk_set k9 0 (.int .i64 0)) 1 (.int .i64 0)) 2 (.string ⟨#[]⟩)) 3 (.slice none 0 0))
    have RF : Hid (Below w.heap.size w ((((w1.setCell ⟨y, 0, none⟩ (.int .i64 0)).setCell ⟨y, 1, none⟩ (.int .i64 0)).setCell ⟨y, 2, none⟩ (.string ⟨#[]⟩)).setCell ⟨y, 3, none⟩ (.slice none 0 0)) ∧ OwnV ((((w1.setCell ⟨y, 0, none⟩ (.int .i64 0)).setCell ⟨y, 1, none⟩ (.int .i64 0)).setCell ⟨y, 2, none⟩ (.string ⟨#[]⟩)).setCell ⟨y, 3, none⟩ (.slice none 0 0)) w.heap.size (.slice none 0 0) []) := ⟨(Below.setCell (Below.setCell (Below.setCell (Below.setCell g9 (p := ⟨y, 0, none⟩) (HYL.out) (.int .i64 0)) (p := ⟨y, 1, none⟩) (HYL.out) (.int .i64 0)) (p := ⟨y, 2, none⟩) (HYL.out) (.string ⟨#[]⟩)) (p := ⟨y, 3, none⟩) (HYL.out) (.slice none 0 0)), OwnV.nil _ _⟩
    clear g9 k9
    have GS := (HSE.out _ (B1.out)).g2
    unfold sen at GS
    have GS9 : Hid (((((w1.setCell ⟨y, 0, none⟩ (.int .i64 0)).setCell ⟨y, 1, none⟩ (.int .i64 0)).setCell ⟨y, 2, none⟩ (.string ⟨#[]⟩)).setCell ⟨y, 3, none⟩ (.slice none 0 0)).cell? ⟨1, 0, none⟩ = some (.iface 259 (.pointer (some (A 2))))) := ((World.cell?_of_block (a := ⟨1, 0, none⟩) (blk_far HYG2.out 3 (.slice none 0 0))).trans ((World.cell?_of_block (a := ⟨1, 0, none⟩) (blk_far HYG2.out 2 (.string ⟨#[]⟩))).trans ((World.cell?_of_block (a := ⟨1, 0, none⟩) (blk_far HYG2.out 1 (.int .i64 0))).trans ((World.cell?_of_block (a := ⟨1, 0, none⟩) (blk_far HYG2.out 0 (.int .i64 0))).trans GS))))
    refine wp_region_noPanic ?_
    refine wp_region_held_drew (S := (fun W => W.cell? ⟨1, 0, none⟩ = some (.iface 259 (.pointer (some (A 2)))))) (by kernel_rfl) GS (fun hHeld => ?_)
    refine wpAnyH_take (i := 0) (oi := { dst := some 30, op := Go.Op.build 30 #[], type := 30, pos := "l10_checkpoint.go:175", after := #[], guard := none }) (v := ?v6) rfl (by kernel_rfl) (by kernel_rfl) (by kernel_rfl) (fun _ _ _ h => h) (Or.inl ⟨by rfl, ?h6⟩) hHeld ?r6
    case h6 => intro wz hz; (try dsimp only at hz); go_simp; try (with_reducible rfl)
    simp only [Act.put, List.setIfInBounds_toArray, List.set_cons_zero, List.set_cons_succ]
    refine wpAnyH_take (i := 1) (oi := { dst := some 31, op := Go.Op.load 68 (Go.Operand.global 1), type := 68, pos := "l10_checkpoint.go:175", after := #[], guard := none }) (v := ?v7) rfl (by kernel_rfl) (by kernel_rfl) (by kernel_rfl) (fun _ _ _ h => h) (Or.inl ⟨by rfl, ?h7⟩) hHeld ?r7
    case h7 => intro wz hz; (try dsimp only at hz); go_simp; try (with_reducible rfl)
    simp only [Act.put, List.setIfInBounds_toArray, List.set_cons_zero, List.set_cons_succ]
    refine wpAnyH_take (i := 2) (oi := { dst := some 32, op := Go.Op.build 119 #[(0, Go.Operand.const (Go.Value.string { data := #[115, 101, 113] })), (1, Go.Operand.tmp 31)], type := 119, pos := "l10_checkpoint.go:175", after := #[{ on := 1, ground := Go.Ground.data }], guard := none }) (v := ?v8) rfl (by kernel_rfl) (by kernel_rfl) (by kernel_rfl) (fun _ _ _ h => h) (Or.inl ⟨by rfl, ?h8⟩) hHeld ?r8
    case h8 => intro wz hz; (try dsimp only at hz); go_simp; try (with_reducible rfl)
    simp only [Act.put, List.setIfInBounds_toArray, List.set_cons_zero, List.set_cons_succ]
    refine wpAnyH_take (i := 3) (oi := { dst := some 33, op := Go.Op.makeInterface 119 (Go.Operand.tmp 32), type := 68, pos := "l10_checkpoint.go:175", after := #[{ on := 2, ground := Go.Ground.data }, { on := 4, ground := Go.Ground.gcOnly Go.Departure.lateStores }], guard := none }) (v := ?v9) rfl (by kernel_rfl) (by kernel_rfl) (by kernel_rfl) (fun _ _ _ h => h) (Or.inl ⟨by rfl, ?h9⟩) hHeld ?r9
    case h9 => intro wz hz; (try dsimp only at hz); go_simp; try (with_reducible rfl)
    simp only [Act.put, List.setIfInBounds_toArray, List.set_cons_zero, List.set_cons_succ]
    refine wpAnyH_ready (rs := [4]) (by kernel_rfl) (by simp) ?_
    refine AllReadyH.cons (o := { dst := none, op := Go.Op.store 30 (Go.Operand.tmp 8) (Go.Operand.tmp 30), type := 0, pos := "l10_checkpoint.go:175", after := #[{ on := 0, ground := Go.Ground.data }, { on := 0, ground := Go.Ground.phase }, { on := 1, ground := Go.Ground.textOnly Go.Departure.lateStores }, { on := 2, ground := Go.Ground.textOnly Go.Departure.lateStores }, { on := 3, ground := Go.Ground.textOnly Go.Departure.lateStores }], guard := none }) rfl (fun K hK => ?_) AllReadyH.nil
    go_simp
    refine hK.out _ _ ?_ (fun hHeld => ?_)
    · exact GS9.out
    clear hK K
    (try simp only [Act.put, List.setIfInBounds_toArray, List.set_cons_zero, List.set_cons_succ])
    refine wpAnyH_take (i := 5) (oi := { dst := some 9, op := Go.Op.assign (Go.Operand.tmp 33), type := 68, pos := "l10_checkpoint.go:175", after := #[{ on := 3, ground := Go.Ground.data }, { on := 4, ground := Go.Ground.chain }, { on := 0, ground := Go.Ground.phase }, { on := 1, ground := Go.Ground.phase }, { on := 2, ground := Go.Ground.phase }, { on := 3, ground := Go.Ground.phase }, { on := 4, ground := Go.Ground.phase }], guard := none }) (v := ?v10) rfl (by kernel_rfl) (by kernel_rfl) (by kernel_rfl) (fun _ _ _ h => h) (Or.inl ⟨by rfl, ?h10⟩) hHeld ?r10
    case h10 => intro wz hz; (try dsimp only at hz); go_simp; try (with_reducible rfl)
    simp only [Act.put, List.setIfInBounds_toArray, List.set_cons_zero, List.set_cons_succ]
    refine wpAnyH_done (by kernel_rfl) ?_ _
    refine NoPanic.normal ?_
    clear GS9
    go_wp2_with fail
    generalize ((((w1.setCell ⟨y, 0, none⟩ (.int .i64 0)).setCell ⟨y, 1, none⟩ (.int .i64 0)).setCell ⟨y, 2, none⟩ (.string ⟨#[]⟩)).setCell ⟨y, 3, none⟩ (.slice none 0 0)) = wf at AF RF ⊢
    have d0 := (blk_cell AF 0 (x := .int .i64 0) rfl).1
    have d1 := (blk_cell AF 1 (x := .int .i64 0) rfl).1
    have d2 := (blk_cell AF 2 (x := .string ⟨#[]⟩) rfl).1
    have d3 := (blk_cell AF 3 (x := .slice none 0 0) rfl).1
    refine bodyPost_ret (v := .tuple #[.agg #[.int .i64 0, .int .i64 0, .string ⟨#[]⟩, .slice none 0 0], .iface 119 (.agg #[.string ⟨#[115, 101, 113]⟩, .iface 259 (.pointer (some (A 2)))])]) (by simp [results, Tryz.results35, go_sem, d0, d1, d2, d3]) rfl ?_
    rw [HM.out.c, HM.out.q, HM.out.z, HM.out.r, HM.out.l]
    exact ⟨_, _, rfl, .inr ⟨_, 2, by decide, rfl, rfl⟩, OwnV.nil _ _, RF.out.1.drew⟩
  case true =>
  rw [if_pos ⟨hn, hsq⟩] at hMS
  rw [hsq] at HWI
  clear hsq hn
  obtain ⟨c0, c1, c2, c3⟩ := HX0.out _ B1.out
  go_wp2_with (first | (go_at_call 66; refine HWI.mono ?_; rintro e w2 ⟨rfl, rfl⟩) | fail)
  refine (HTB.out _ (HY0.out _ B1.out).2).mono ?_
  rintro e w2 ⟨v2, rfl, r2, b2⟩
  have B2 : Hid (Below wb.heap.size wb w2) := B1.out.trans (b2.mono B1.out.size)
  have R2 : Hid (TOK ⟨tm, nx, ls, ss⟩ → RowB w2 v2 (tabBs tm nx ls ss)) := r2
  clear b2 r2 B1 c0 c1 c2 c3 HWI HTB
  by_cases ht : TOK ⟨tm, nx, ls, ss⟩
  case neg =>
    rw [bOf_false ht] at hMS
    have hMS1 : msC n sq tm nx ls ss fs = 1 := hMS
    have HM : Hid (Ms n sq tm nx ls ss fs 1 0 0 ⟨#[]⟩ []) := ms_no hMS1 (by decide)
    have HTC : Hid (tbCode tm nx ls ss = 1) := by show _ = _; unfold tbCode; rw [bOf_false ht]; rfl
    rw [HTC.out]
    have HFC : Hid (Calls Tryz.prog 68 #[.string tTa, .int .i64 1] w2 fun e w' => e = .returned (fnd tTa (sen (A 7))) ∧ Below w2.heap.size w2 w') := faultOfCode_any tTa 1 (by decide) (HSE.out _ B2.out)
    unfold fnd sen at HFC
    clear hMS hMS1 ht R2 HRQ HUN HWV
    unfold tTa at HFC
    go_wp2_with fail
    refine HFC.out.mono ?_
    rintro e w3 ⟨rfl, b3⟩
    have B3 : Hid (Below wb.heap.size wb w3) := B2.out.trans (b3.mono B2.out.size)
    clear b3
    obtain ⟨k9, g9⟩ := HY0.out _ (B3.out)
    obtain ⟨m0, n0⟩ := blk_cell k9 0 (x := .int .i64 0) rfl
    obtain ⟨m1, n1⟩ := blk_cell k9 1 (x := .int .i64 0) rfl
    obtain ⟨m2, n2⟩ := blk_cell k9 2 (x := .string ⟨#[]⟩) rfl
    obtain ⟨m3, n3⟩ := blk_cell k9 3 (x := .slice none 0 0) rfl
    have AF : ((((w3.setCell ⟨y, 0, none⟩ (.int .i64 0)).setCell ⟨y, 1, none⟩ (.int .i64 0)).setCell ⟨y, 2, none⟩ (.string ⟨#[]⟩)).setCell ⟨y, 3, none⟩ (.slice none 0 0)).heap[y]? = some (.cells #[.int .i64 0, .int .i64 0, .string ⟨#[]⟩, .slice none 0 0] 30 (0, 0)) := (blk_set (blk_set (blk_set (blk_set k9 0 (.int .i64 0)) 1 (.int .i64 0)) 2 (.string ⟨#[]⟩)) 3 (.slice none 0 0))
    have RF : Hid (Below w.heap.size w ((((w3.setCell ⟨y, 0, none⟩ (.int .i64 0)).setCell ⟨y, 1, none⟩ (.int .i64 0)).setCell ⟨y, 2, none⟩ (.string ⟨#[]⟩)).setCell ⟨y, 3, none⟩ (.slice none 0 0)) ∧ OwnV ((((w3.setCell ⟨y, 0, none⟩ (.int .i64 0)).setCell ⟨y, 1, none⟩ (.int .i64 0)).setCell ⟨y, 2, none⟩ (.string ⟨#[]⟩)).setCell ⟨y, 3, none⟩ (.slice none 0 0)) w.heap.size (.slice none 0 0) []) := ⟨(Below.setCell (Below.setCell (Below.setCell (Below.setCell g9 (p := ⟨y, 0, none⟩) (HYL.out) (.int .i64 0)) (p := ⟨y, 1, none⟩) (HYL.out) (.int .i64 0)) (p := ⟨y, 2, none⟩) (HYL.out) (.string ⟨#[]⟩)) (p := ⟨y, 3, none⟩) (HYL.out) (.slice none 0 0)), OwnV.nil _ _⟩
    clear g9 k9
    go_wp2_with fail
    generalize ((((w3.setCell ⟨y, 0, none⟩ (.int .i64 0)).setCell ⟨y, 1, none⟩ (.int .i64 0)).setCell ⟨y, 2, none⟩ (.string ⟨#[]⟩)).setCell ⟨y, 3, none⟩ (.slice none 0 0)) = wf at AF RF ⊢
    have d0 := (blk_cell AF 0 (x := .int .i64 0) rfl).1
    have d1 := (blk_cell AF 1 (x := .int .i64 0) rfl).1
    have d2 := (blk_cell AF 2 (x := .string ⟨#[]⟩) rfl).1
    have d3 := (blk_cell AF 3 (x := .slice none 0 0) rfl).1
    refine bodyPost_ret (v := .tuple #[.agg #[.int .i64 0, .int .i64 0, .string ⟨#[]⟩, .slice none 0 0], .iface 119 (.agg #[.string ⟨#[116, 97, 98, 108, 101]⟩, .iface 259 (.pointer (some (A 7)))])]) (by simp [results, Tryz.results35, go_sem, d0, d1, d2, d3]) rfl ?_
    rw [HM.out.c, HM.out.q, HM.out.z, HM.out.r, HM.out.l]
    exact ⟨_, _, rfl, .inr ⟨_, 7, by decide, rfl, rfl⟩, RF.out.2, RF.out.1⟩
  case pos =>
  rw [bOf_true ht] at hMS
  have hMS1 : msC n sq tm nx ls ss fs = if qvB n fs = true then 0 else 19 := hMS
  have HTC : Hid (tbCode tm nx ls ss = 0) := by show _ = _; unfold tbCode; rw [bOf_true ht]; rfl
  rw [HTC.out]
  have RB := R2.out ht
  clear R2 hMS
  go_wp2_with fail
  refine (faultOfCode_nil _ w2).mono ?_
  rintro e w3 ⟨rfl, b3⟩
  have B3 : Hid (Below wb.heap.size wb w3) := B2.out.trans (b3.mono B2.out.size)
  have RB3 : Hid (RowB w3 v2 (tabBs tm nx ls ss)) := RB.below b3
  clear b3 RB B2
  have HRQ3 := HRQ.out w3 (HY0.out _ B3.out).2
  cases hq : qvB n fs
  case false =>
    rw [if_neg (fun hh => by rw [hq] at hh; cases hh)] at hMS1
    have HM : Hid (Ms n sq tm nx ls ss fs 19 0 0 ⟨#[]⟩ []) := ms_no hMS1 (by decide)
    rw [hq] at HRQ3
    clear hMS1 hq ht HRQ HUN HWV RB3
    go_upto_region 12 with fail
    go_upto_region 13 with (go_at_call 69; refine HRQ3.mono ?_; rintro e w4 ⟨rfl, rfl⟩)
    obtain ⟨k9, g9⟩ := HY0.out _ (B3.out)
    obtain ⟨m0, n0⟩ := blk_cell k9 0 (x := .int .i64 0) rfl
    obtain ⟨m1, n1⟩ := blk_cell k9 1 (x := .int .i64 0) rfl
    obtain ⟨m2, n2⟩ := blk_cell k9 2 (x := .string ⟨#[]⟩) rfl
    obtain ⟨m3, n3⟩ := blk_cell k9 3 (x := .slice none 0 0) rfl
    have AF : ((((w3.setCell ⟨y, 0, none⟩ (.int .i64 0)).setCell ⟨y, 1, none⟩ (.int .i64 0)).setCell ⟨y, 2, none⟩ (.string ⟨#[]⟩)).setCell ⟨y, 3, none⟩ (.slice none 0 0)).heap[y]? = some (.cells #[.int .i64 0, .int .i64 0, .string ⟨#[]⟩, .slice none 0 0] 30 (0, 0)) := (blk_set (blk_set (blk_set (blk_set k9 0 (.int .i64 0)) 1 (.int .i64 0)) 2 (.string ⟨#[]⟩)) 3 (.slice none 0 0))
    have RF : Hid (Below w.heap.size w ((((w3.setCell ⟨y, 0, none⟩ (.int .i64 0)).setCell ⟨y, 1, none⟩ (.int .i64 0)).setCell ⟨y, 2, none⟩ (.string ⟨#[]⟩)).setCell ⟨y, 3, none⟩ (.slice none 0 0)) ∧ OwnV ((((w3.setCell ⟨y, 0, none⟩ (.int .i64 0)).setCell ⟨y, 1, none⟩ (.int .i64 0)).setCell ⟨y, 2, none⟩ (.string ⟨#[]⟩)).setCell ⟨y, 3, none⟩ (.slice none 0 0)) w.heap.size (.slice none 0 0) []) := ⟨(Below.setCell (Below.setCell (Below.setCell (Below.setCell g9 (p := ⟨y, 0, none⟩) (HYL.out) (.int .i64 0)) (p := ⟨y, 1, none⟩) (HYL.out) (.int .i64 0)) (p := ⟨y, 2, none⟩) (HYL.out) (.string ⟨#[]⟩)) (p := ⟨y, 3, none⟩) (HYL.out) (.slice none 0 0)), OwnV.nil _ _⟩
    clear g9 k9
    have GS := (HSE.out _ (B3.out)).g6
    unfold sen at GS
    have GS9 : Hid (((((w3.setCell ⟨y, 0, none⟩ (.int .i64 0)).setCell ⟨y, 1, none⟩ (.int .i64 0)).setCell ⟨y, 2, none⟩ (.string ⟨#[]⟩)).setCell ⟨y, 3, none⟩ (.slice none 0 0)).cell? ⟨2, 0, none⟩ = some (.iface 259 (.pointer (some (A 6))))) := ((World.cell?_of_block (a := ⟨2, 0, none⟩) (blk_far HYG6.out 3 (.slice none 0 0))).trans ((World.cell?_of_block (a := ⟨2, 0, none⟩) (blk_far HYG6.out 2 (.string ⟨#[]⟩))).trans ((World.cell?_of_block (a := ⟨2, 0, none⟩) (blk_far HYG6.out 1 (.int .i64 0))).trans ((World.cell?_of_block (a := ⟨2, 0, none⟩) (blk_far HYG6.out 0 (.int .i64 0))).trans GS))))
    refine wp_region_noPanic ?_
    refine wp_region_held_drew (S := (fun W => W.cell? ⟨2, 0, none⟩ = some (.iface 259 (.pointer (some (A 6)))))) (by kernel_rfl) GS (fun hHeld => ?_)
    refine wpAnyH_take (i := 0) (oi := { dst := some 49, op := Go.Op.build 30 #[], type := 30, pos := "l10_checkpoint.go:182", after := #[], guard := none }) (v := ?v11) rfl (by kernel_rfl) (by kernel_rfl) (by kernel_rfl) (fun _ _ _ h => h) (Or.inl ⟨by rfl, ?h11⟩) hHeld ?r11
    case h11 => intro wz hz; (try dsimp only at hz); go_simp; try (with_reducible rfl)
    simp only [Act.put, List.setIfInBounds_toArray, List.set_cons_zero, List.set_cons_succ]
    refine wpAnyH_take (i := 1) (oi := { dst := some 50, op := Go.Op.load 68 (Go.Operand.global 2), type := 68, pos := "l10_checkpoint.go:182", after := #[], guard := none }) (v := ?v12) rfl (by kernel_rfl) (by kernel_rfl) (by kernel_rfl) (fun _ _ _ h => h) (Or.inl ⟨by rfl, ?h12⟩) hHeld ?r12
    case h12 => intro wz hz; (try dsimp only at hz); go_simp; try (with_reducible rfl)
    simp only [Act.put, List.setIfInBounds_toArray, List.set_cons_zero, List.set_cons_succ]
    refine wpAnyH_take (i := 2) (oi := { dst := some 51, op := Go.Op.build 119 #[(0, Go.Operand.const (Go.Value.string { data := #[118, 111, 116, 101, 114, 115] })), (1, Go.Operand.tmp 50)], type := 119, pos := "l10_checkpoint.go:182", after := #[{ on := 1, ground := Go.Ground.data }], guard := none }) (v := ?v13) rfl (by kernel_rfl) (by kernel_rfl) (by kernel_rfl) (fun _ _ _ h => h) (Or.inl ⟨by rfl, ?h13⟩) hHeld ?r13
    case h13 => intro wz hz; (try dsimp only at hz); go_simp; try (with_reducible rfl)
    simp only [Act.put, List.setIfInBounds_toArray, List.set_cons_zero, List.set_cons_succ]
    refine wpAnyH_take (i := 3) (oi := { dst := some 52, op := Go.Op.makeInterface 119 (Go.Operand.tmp 51), type := 68, pos := "l10_checkpoint.go:182", after := #[{ on := 2, ground := Go.Ground.data }, { on := 4, ground := Go.Ground.gcOnly Go.Departure.lateStores }], guard := none }) (v := ?v14) rfl (by kernel_rfl) (by kernel_rfl) (by kernel_rfl) (fun _ _ _ h => h) (Or.inl ⟨by rfl, ?h14⟩) hHeld ?r14
    case h14 => intro wz hz; (try dsimp only at hz); go_simp; try (with_reducible rfl)
    simp only [Act.put, List.setIfInBounds_toArray, List.set_cons_zero, List.set_cons_succ]
    refine wpAnyH_ready (rs := [4]) (by kernel_rfl) (by simp) ?_
    refine AllReadyH.cons (o := { dst := none, op := Go.Op.store 30 (Go.Operand.tmp 8) (Go.Operand.tmp 49), type := 0, pos := "l10_checkpoint.go:182", after := #[{ on := 0, ground := Go.Ground.data }, { on := 0, ground := Go.Ground.phase }, { on := 1, ground := Go.Ground.textOnly Go.Departure.lateStores }, { on := 2, ground := Go.Ground.textOnly Go.Departure.lateStores }, { on := 3, ground := Go.Ground.textOnly Go.Departure.lateStores }], guard := none }) rfl (fun K hK => ?_) AllReadyH.nil
    go_simp
    refine hK.out _ _ ?_ (fun hHeld => ?_)
    · exact GS9.out
    clear hK K
    (try simp only [Act.put, List.setIfInBounds_toArray, List.set_cons_zero, List.set_cons_succ])
    refine wpAnyH_take (i := 5) (oi := { dst := some 9, op := Go.Op.assign (Go.Operand.tmp 52), type := 68, pos := "l10_checkpoint.go:182", after := #[{ on := 3, ground := Go.Ground.data }, { on := 4, ground := Go.Ground.chain }, { on := 0, ground := Go.Ground.phase }, { on := 1, ground := Go.Ground.phase }, { on := 2, ground := Go.Ground.phase }, { on := 3, ground := Go.Ground.phase }, { on := 4, ground := Go.Ground.phase }], guard := none }) (v := ?v15) rfl (by kernel_rfl) (by kernel_rfl) (by kernel_rfl) (fun _ _ _ h => h) (Or.inl ⟨by rfl, ?h15⟩) hHeld ?r15
    case h15 => intro wz hz; (try dsimp only at hz); go_simp; try (with_reducible rfl)
    simp only [Act.put, List.setIfInBounds_toArray, List.set_cons_zero, List.set_cons_succ]
    refine wpAnyH_done (by kernel_rfl) ?_ _
    refine NoPanic.normal ?_
    clear GS9
    go_wp2_with fail
    generalize ((((w3.setCell ⟨y, 0, none⟩ (.int .i64 0)).setCell ⟨y, 1, none⟩ (.int .i64 0)).setCell ⟨y, 2, none⟩ (.string ⟨#[]⟩)).setCell ⟨y, 3, none⟩ (.slice none 0 0)) = wf at AF RF ⊢
    have d0 := (blk_cell AF 0 (x := .int .i64 0) rfl).1
    have d1 := (blk_cell AF 1 (x := .int .i64 0) rfl).1
    have d2 := (blk_cell AF 2 (x := .string ⟨#[]⟩) rfl).1
    have d3 := (blk_cell AF 3 (x := .slice none 0 0) rfl).1
    refine bodyPost_ret (v := .tuple #[.agg #[.int .i64 0, .int .i64 0, .string ⟨#[]⟩, .slice none 0 0], .iface 119 (.agg #[.string ⟨#[118, 111, 116, 101, 114, 115]⟩, .iface 259 (.pointer (some (A 6)))])]) (by simp [results, Tryz.results35, go_sem, d0, d1, d2, d3]) rfl ?_
    rw [HM.out.c, HM.out.q, HM.out.z, HM.out.r, HM.out.l]
    exact ⟨_, _, rfl, .inr ⟨_, 6, by decide, rfl, rfl⟩, OwnV.nil _ _, RF.out.1.drew⟩
  case true =>
  rw [if_pos hq] at hMS1
  rw [hq] at HRQ3
  have HM0 := ms_yes hMS1
  have HUN3 := HUN.out w3 v2 ht (HY0.out _ B3.out).2 RB3.out
  have HWV3 : Hid (∀ W, Below w.heap.size w W → Calls Tryz.prog 70 #[stV sq (tN tm nx ls ss) (tR tm nx ls ss) (.slice none 0 0), .slice a fs.length cap] W fun e w' => ∃ v, e = .returned (stV sq (tN tm nx ls ss) (tR tm nx ls ss) v) ∧ OwnV w' w.heap.size v (vtTo sq (tN tm nx ls ss) (tR tm nx ls ss) fs fs.length) ∧ Below W.heap.size W w') := fun W hW => HWV.out W ht hq (by omega) hW
  have HLV : Hid ((vtTo sq (tN tm nx ls ss) (tR tm nx ls ss) fs fs.length).length = fs.length) := vtTo_len (Nat.le_refl _)
  clear hMS1 hq ht HUN HWV HRQ RB3
  generalize vtTo sq (tN tm nx ls ss) (tR tm nx ls ss) fs fs.length = ol at HM0 HWV3 HLV
  generalize tN tm nx ls ss = sz at HM0 HUN3 HWV3
  generalize tR tm nx ls ss = rt at HM0 HUN3 HWV3
  have HM : Hid (Ms n sq tm nx ls ss fs 0 sq sz rt ol) := HM0
  clear HM0
  unfold stV at HUN3 HWV3
  go_wp2_with (first | (go_at_call 69; refine HRQ3.mono ?_; rintro e w4 ⟨rfl, rfl⟩) | fail)
  refine HUN3.mono ?_
  rintro e w5 ⟨rfl, b5⟩
  have B5 : Hid (Below wb.heap.size wb w5) := B3.out.trans (b5.mono B3.out.size)
  clear b5 B3 HUN3 HRQ3
  go_wp2_with fail
  refine (HWV3.out _ (HY0.out _ B5.out).2).mono ?_
  rintro e w6 ⟨v6, rfl, o6, b6⟩
  have B6 : Hid (Below wb.heap.size wb w6) := B5.out.trans (b6.mono B5.out.size)
  obtain ⟨va, vc, rfl⟩ := o6.slice
  rw [HLV.out] at o6 ⊢
  clear b6 B5 HWV3
  obtain ⟨k9, g9⟩ := HY0.out _ (B6.out)
  obtain ⟨m0, n0⟩ := blk_cell k9 0 (x := .int .i64 0) rfl
  obtain ⟨m1, n1⟩ := blk_cell k9 1 (x := .int .i64 0) rfl
  obtain ⟨m2, n2⟩ := blk_cell k9 2 (x := .string ⟨#[]⟩) rfl
  obtain ⟨m3, n3⟩ := blk_cell k9 3 (x := .slice none 0 0) rfl
  have AF : ((((w6.setCell ⟨y, 0, none⟩ (.int .i64 sq)).setCell ⟨y, 1, none⟩ (.int .i64 sz)).setCell ⟨y, 2, none⟩ (.string rt)).setCell ⟨y, 3, none⟩ (.slice va fs.length vc)).heap[y]? = some (.cells #[.int .i64 sq, .int .i64 sz, .string rt, .slice va fs.length vc] 30 (0, 0)) := (blk_set (blk_set (blk_set (blk_set k9 0 (.int .i64 sq)) 1 (.int .i64 sz)) 2 (.string rt)) 3 (.slice va fs.length vc))
  have RF : Hid (Below w.heap.size w ((((w6.setCell ⟨y, 0, none⟩ (.int .i64 sq)).setCell ⟨y, 1, none⟩ (.int .i64 sz)).setCell ⟨y, 2, none⟩ (.string rt)).setCell ⟨y, 3, none⟩ (.slice va fs.length vc)) ∧ OwnV ((((w6.setCell ⟨y, 0, none⟩ (.int .i64 sq)).setCell ⟨y, 1, none⟩ (.int .i64 sz)).setCell ⟨y, 2, none⟩ (.string rt)).setCell ⟨y, 3, none⟩ (.slice va fs.length vc)) w.heap.size (.slice va fs.length vc) ol) := ⟨(Below.setCell (Below.setCell (Below.setCell (Below.setCell g9 (p := ⟨y, 0, none⟩) (HYL.out) (.int .i64 sq)) (p := ⟨y, 1, none⟩) (HYL.out) (.int .i64 sz)) (p := ⟨y, 2, none⟩) (HYL.out) (.string rt)) (p := ⟨y, 3, none⟩) (HYL.out) (.slice va fs.length vc)), o6.kept (fun g hg => ((blk_far (own_ne o6 k9 g hg) 3 (.slice va fs.length vc)).trans ((blk_far (own_ne o6 k9 g hg) 2 (.string rt)).trans ((blk_far (own_ne o6 k9 g hg) 1 (.int .i64 sz)).trans ((blk_far (own_ne o6 k9 g hg) 0 (.int .i64 sq)).trans (Eq.refl w6.heap[g]?))))))⟩
  clear g9 k9
  clear o6
  go_wp2_with fail
  generalize ((((w6.setCell ⟨y, 0, none⟩ (.int .i64 sq)).setCell ⟨y, 1, none⟩ (.int .i64 sz)).setCell ⟨y, 2, none⟩ (.string rt)).setCell ⟨y, 3, none⟩ (.slice va fs.length vc)) = wf at AF RF ⊢
  have d0 := (blk_cell AF 0 (x := .int .i64 sq) rfl).1
  have d1 := (blk_cell AF 1 (x := .int .i64 sz) rfl).1
  have d2 := (blk_cell AF 2 (x := .string rt) rfl).1
  have d3 := (blk_cell AF 3 (x := .slice va fs.length vc) rfl).1
  refine bodyPost_ret (v := .tuple #[.agg #[.int .i64 sq, .int .i64 sz, .string rt, .slice va fs.length vc], .nilIface]) (by simp [results, Tryz.results35, go_sem, d0, d1, d2, d3]) rfl ?_
  rw [HM.out.c, HM.out.q, HM.out.z, HM.out.r, HM.out.l]
  exact ⟨_, _, rfl, .inl ⟨rfl, rfl⟩, RF.out.2, RF.out.1⟩
end Go.Proofs.YtnebohdlndiejaaGreatDoor.Xo

/- Votes that are gathered: l10Make of the specification. -/
namespace Go.Proofs.YtnebohdlndiejaaGreatDoor.Xo
open Go.RowKit Go.Proofs.YtnebohdlndiejaaGreatDoor.Sl Go.Proofs.YtnebohdlndiejaaGreatDoor.Rg Go.Proofs.YtnebohdlndiejaaGreatDoor.Xv
open Go.Proofs.YtnebohdlndiejaaGreatDoor.Gt (Vo)
open Go.Proofs.YtnebohdlndiejaaGreatDoor.Hs (stV)
open Go.Proofs.YtnebohdlndiejaaGreatDoor.Sh (KTab KTab.below)
open Go.Proofs.YtnebohdlndiejaaGreatDoor.Xq (RowJ RowJ.below RowJ.at)
open Go.Proofs.YtnebohdlndiejaaGreatDoor.Tb (Lk Sn Tab RowL RowS RowL.below RowS.below tabV)
open Go.Proofs.YtnebohdlndiejaaGreatDoor.Tp (TOK bOf bOf_true bOf_false)
open Go.Proofs.YtnebohdlndiejaaGreatDoor.Pt (tabBs Bnd tok_bnd lsBs lsBs_le ssBs ssBs_len tbOut tbCode)
open Go.Proofs.YtnebohdlndiejaaGreatDoor.Ps (l05Bytes_any)
open Go.Proofs.YtnebohdlndiejaaGreatDoor.Pu (nums nums_range nums_length)
open Go.Proofs.YtnebohdlndiejaaGreatDoor.Sl (RowB)
open Go.Proofs.YtnebohdlndiejaaGreatDoor.Ap (own_rowB)
open Go.Proofs.YtnebohdlndiejaaGreatDoor.Tx (RowT OwnS)
open Go.Proofs.YtnebohdlndiejaaGreatDoor.Pg (cutTo cutN cutL cutC cut_ok l09Cut_any implCutPieces_any pcn)
open Go.Proofs.YtnebohdlndiejaaGreatDoor.Py (rootF rootF_size l09Root_any rootOf_any)
open Go.Proofs.YtnebohdlndiejaaGreatDoor.Fz (range_append)


set_option maxRecDepth 100000 in
set_option maxHeartbeats 1600000 in
theorem l10Make_any (tm nx : Int) (vl vs : Value) (ls : List Lk) (ss : List Sn) (sq : Int) (u : Value) (fs : List Int) (w : World) (hL : RowL w vl ls) (hS : RowS w vs ss) (ht : TOK ⟨tm, nx, ls, ss⟩) (h : RowJ w u fs) (hl : fs.length ≤ 4096) (hN : ∀ f ∈ fs, ∃ i : Nat, f = i ∧ i < 7) :
    Calls Tryz.prog 32 #[.int .i64 sq, tabV tm nx vl vs, u] w fun e w' => ∃ v, e = .returned (stV sq (tN tm nx ls ss) (tR tm nx ls ss) v) ∧ OwnV w' w.heap.size v (vtTo sq (tN tm nx ls ss) (tR tm nx ls ss) fs fs.length) ∧ Below w.heap.size w w' := by
  obtain ⟨i0, hi0, hz0, hz1, hz2⟩ := info_parts infoV
  have HR : Hid (RowJ w u fs) := h
  have HN : Hid (∀ f ∈ fs, ∃ i : Nat, f = i ∧ i < 7) := hN
  have HBY : Hid (∀ W, Below w.heap.size w W → Calls Tryz.prog 60 #[tabV tm nx vl vs] W fun e w' => ∃ v, e = .returned v ∧ RowB w' v (tabBs tm nx ls ss) ∧ Below W.heap.size W w') := fun W hW => (l05Bytes_any tm nx vl vs ls ss W (hL.below hW) (hS.below hW) (tok_bnd ht)).mono fun e w' ⟨v, h1, h2, h3⟩ => ⟨v, h1, own_rowB h2 (tab_range tm nx ls ss), h3⟩
  have HCU : Hid (∀ W v, RowB W v (tabBs tm nx ls ss) → Calls Tryz.prog 59 #[v] W fun e w' => ∃ v', e = .returned v' ∧ RowT w' v' (tL tm nx ls ss) ∧ Below W.heap.size W w') := fun W v hW => (l09Cut_any v _ W hW (by have := tab_len (tm := tm) (nx := nx) (tok_bnd ht); omega)).mono fun e w' ⟨v', h1, h2, h3⟩ => ⟨v', h1, h2.row, h3⟩
  have HRO : Hid (∀ W v, RowT W v (tL tm nx ls ss) → Calls Tryz.prog 61 #[v] W fun e w' => e = .returned (.string (tR tm nx ls ss)) ∧ Below W.heap.size W w') := fun W v hW => l09Root_any 64 _ v W hW (tL_some ht).1 (tL_some ht).2 (tL_some ht).2 (tL_small ht)
  have hrs := tR_size ht
  have hln := tL_len (tm := tm) (nx := nx) (ls := ls) (ss := ss)
  obtain ⟨a, cap, rfl, _⟩ := h
  obtain ⟨la, lc, rfl⟩ := Tb.RowG.slice hL
  obtain ⟨sa, sc, rfl⟩ := Tb.RowG.slice hS
  generalize tR tm nx ls ss = rt at HRO hrs ⊢
  generalize tN tm nx ls ss = sz at hln ⊢
  generalize tL tm nx ls ss = pcs at HCU HRO hln
  have HLN0 : Hid ((pcs.length : Int) = sz) := hln
  have HRS : Hid (rt.size ≤ 1000) := hrs
  have HX0 : Hid (∀ W, Below ((w.alloc (.cells #[.int .i64 tm, .int .i64 nx, .slice la ls.length lc, .slice sa ss.length sc] 36)).alloc (.cells #[.int .i64 0, .int .i64 0, .string ⟨#[]⟩, .slice none 0 0] 30)).heap.size ((w.alloc (.cells #[.int .i64 tm, .int .i64 nx, .slice la ls.length lc, .slice sa ss.length sc] 36)).alloc (.cells #[.int .i64 0, .int .i64 0, .string ⟨#[]⟩, .slice none 0 0] 30)) W → (W.cell? ⟨w.heap.size, 0, none⟩ = some (.int .i64 tm) ∧ W.cell? ⟨w.heap.size, 1, none⟩ = some (.int .i64 nx) ∧ W.cell? ⟨w.heap.size, 2, none⟩ = some (.slice la ls.length lc) ∧ W.cell? ⟨w.heap.size, 3, none⟩ = some (.slice sa ss.length sc)) ∧ W.heap[w.heap.size + 1]? = some (.cells #[.int .i64 0, .int .i64 0, .string ⟨#[]⟩, .slice none 0 0] 30) ∧ Below w.heap.size w W ∧ w.heap.size + 1 + 1 ≤ W.heap.size) := fun W hW => by
    have e2 : ((w.alloc (.cells #[.int .i64 tm, .int .i64 nx, .slice la ls.length lc, .slice sa ss.length sc] 36)).alloc (.cells #[.int .i64 0, .int .i64 0, .string ⟨#[]⟩, .slice none 0 0] 30)).heap.size = w.heap.size + 1 + 1 := by rw [size_new, size_new]
    have h0 : W.heap[w.heap.size]? = some (.cells #[.int .i64 tm, .int .i64 nx, .slice la ls.length lc, .slice sa ss.length sc] 36) := by rw [hW.block _ (by omega), Below.heap_alloc _ _ _ (by rw [size_new]; omega)]; exact heap_alloc_new w _
    have h1 : W.heap[w.heap.size + 1]? = some (.cells #[.int .i64 0, .int .i64 0, .string ⟨#[]⟩, .slice none 0 0] 30) := by rw [hW.block _ (by omega)]; have := heap_alloc_new (w.alloc (.cells #[.int .i64 tm, .int .i64 nx, .slice la ls.length lc, .slice sa ss.length sc] 36)) (.cells #[.int .i64 0, .int .i64 0, .string ⟨#[]⟩, .slice none 0 0] 30); rwa [size_new] at this
    exact ⟨⟨(blk_cell h0 0 rfl).1, (blk_cell h0 1 rfl).1, (blk_cell h0 2 rfl).1, (blk_cell h0 3 rfl).1⟩, h1, (((Below.refl w.heap.size w).alloc (Nat.le_refl _) _).alloc (by rw [size_new]; omega) _).trans (hW.mono (by omega)), by have := hW.size; omega⟩
  clear hN ht hrs hln hL hS
  unfold tabV at HBY ⊢
  unfold stV
  go_enter Tryz.func32, Tryz.ntmps32
  go_upto_region 1 with fail
  generalize (w.alloc (.cells #[.int .i64 tm, .int .i64 nx, .slice la ls.length lc, .slice sa ss.length sc] 36)).alloc (.cells #[.int .i64 0, .int .i64 0, .string ⟨#[]⟩, .slice none 0 0] 30) = wb at HX0 ⊢
  obtain ⟨⟨c0, c1, c2, c3⟩, _, g0, _⟩ := HX0.out _ (Below.refl _ _)
  have G0 : Hid (Below w.heap.size w wb) := g0
  clear g0
  go_wp2_with fail
  refine (HBY.out _ G0.out).mono ?_
  rintro e w1 ⟨v1, rfl, r1, b1⟩
  have R1 : Hid (RowB w1 v1 (tabBs tm nx ls ss) ∧ Below wb.heap.size wb w1) := ⟨r1, b1⟩
  clear r1 b1 c0 c1 c2 c3
  go_wp2_with fail
  refine (HCU.out _ _ R1.out.1).mono ?_
  rintro e w2 ⟨v2, rfl, r2, b2⟩
  have R2 : Hid (RowT w2 v2 pcs ∧ Below wb.heap.size wb w2) := ⟨r2, R1.out.2.trans (b2.mono R1.out.2.size)⟩
  obtain ⟨pa, pc, rfl, _⟩ := r2
  clear b2 R1
  go_wp2_with fail
  refine (HRO.out _ _ R2.out.1).mono ?_
  rintro e w3 ⟨rfl, b3⟩
  have B3 : Hid (Below wb.heap.size wb w3) := R2.out.2.trans (b3.mono R2.out.2.size)
  clear b3 R2
  rw [HLN0.out]
  obtain ⟨_, y3, g3, l3⟩ := HX0.out _ B3.out
  have hB0 : Below w.heap.size w ((w3.alloc (.cells #[] 112)).alloc (.cells #[.int .i64 sq, .int .i64 sz, .string rt, .slice (some ⟨w3.heap.size, 0, none⟩) 0 0] 30)) := (g3.alloc g3.size _).alloc (Nat.le_trans g3.size (by rw [size_new]; omega)) _
  have HV0 : Vb sq sz rt w ((w3.alloc (.cells #[] 112)).alloc (.cells #[.int .i64 sq, .int .i64 sz, .string rt, .slice (some ⟨w3.heap.size, 0, none⟩) 0 0] 30)) (w3.heap.size + 1) (w.heap.size + 1) (w.heap.size + 1 + 1) (.slice (some ⟨w3.heap.size, 0, none⟩) 0 0) [] := by
    refine ⟨?_, ?_, (OwnV.made w3 _ l3).below (bel_new _ _), hB0, by rw [size_new, size_new]; omega⟩
    · have := heap_alloc_new (w3.alloc (.cells #[] 112)) (.cells #[.int .i64 sq, .int .i64 sz, .string rt, .slice (some ⟨w3.heap.size, 0, none⟩) 0 0] 30)
      rwa [size_new] at this
    · rw [Below.heap_alloc _ _ _ (by rw [size_new]; omega), Below.heap_alloc _ _ _ (by omega)]; exact y3
  clear y3 g3 l3 hB0 HX0 G0 B3 HBY HCU HRO
  go_upto_region 3 with fail
  generalize (w3.alloc (.cells #[] 112)).alloc (.cells #[.int .i64 sq, .int .i64 sz, .string rt, .slice (some ⟨w3.heap.size, 0, none⟩) 0 0] 30) = wq at HV0 ⊢
  generalize w3.heap.size = gv at HV0 ⊢
  obtain ⟨x, HX⟩ : ∃ x, Hid (gv + 1 = x) := ⟨_, rfl⟩
  rw [HX.out] at HV0 ⊢
  obtain ⟨y, HY⟩ : ∃ y, Hid (w.heap.size + 1 = y) := ⟨_, rfl⟩
  rw [HY.out] at HV0 ⊢
  obtain ⟨B, HBE⟩ : ∃ B, Hid (y + 1 = B) := ⟨_, rfl⟩
  rw [HBE.out] at HV0
  have HBB : Hid (w.heap.size ≤ B) := by show _ ≤ _; have := HY.out; have := HBE.out; omega
  go_wp2_with fail
  go_loopw [9] (fun i wr => ∃ (k : Nat) (va : Option Addr) (vc : Nat), k ≤ fs.length ∧ i = .int .i64 k ∧ Hid (Vb sq sz rt w wr x y B (.slice va k vc) (vtTo sq sz rt fs k))) (fun i _ => fs.length - (intOf i).toNat)
  case atStart => exact ⟨0, _, 0, by omega, rfl, HV0⟩
  case round =>
    clear HV0
    obtain ⟨k, va, vc, hk, rfl, HV⟩ := hrel
    by_cases hlt : k < fs.length
    · obtain ⟨f, hf⟩ := Rg.get_at hlt
      obtain ⟨fb, foff, rfl, hfb, c0⟩ := (HR.out.below HV.out.gr).at hf
      obtain ⟨i, rfl, hi7⟩ := HN.out _ (List.mem_of_getElem? hf)
      have HEQ : Hid (vtTo sq sz rt fs (k + 1) = vtTo sq sz rt fs k ++ [⟨(i : Int), vmk i sq sz rt⟩]) := vtTo_succ hf
      have HLN : Hid ((vtTo sq sz rt fs k).length ≤ 1000000) := by show _ ≤ _; rw [vtTo_len hk]; omega
      have HLK : Hid ((vtTo sq sz rt fs k).length = k) := vtTo_len hk
      have HL5 : Hid ((vtTo sq sz rt fs (k + 1)).length = k + 1) := vtTo_len (by omega)
      have HVM : Hid (∀ W, Vb sq sz rt w W x y B (.slice va k vc) (vtTo sq sz rt fs k) → Calls Tryz.prog 62 #[.int .i64 i, .int .i64 sq, .int .i64 sz, .string rt] W fun e w' => e = .returned (.string (vmk i sq sz rt)) ∧ Vb sq sz rt w w' x y B (.slice va k vc) (vtTo sq sz rt fs k)) := fun W hW => (l10Mac_any i sq sz rt W (by omega) HRS.out).mono fun e w' ⟨h1, h2⟩ => ⟨h1, hW.below h2⟩
      have hk0 : (k : Int) < (fs.length : Int) := by omega
      have HC0 : Hid (∀ W, Below w.heap.size w W → W.cell? ⟨fb, foff + k, none⟩ = some (.int .i64 i)) := fun W hW => by
        obtain ⟨b', off', e, _, q⟩ := (HR.out.below hW).at hf
        cases e
        exact q
      obtain ⟨ms2, HM2⟩ : ∃ ms2, Hid (vtTo sq sz rt fs (k + 1) = ms2) := ⟨_, rfl⟩
      obtain ⟨ms, HM1⟩ : ∃ ms, Hid (vtTo sq sz rt fs k = ms) := ⟨_, rfl⟩
      obtain ⟨mk, HMK⟩ : ∃ mk, Hid (vmk i sq sz rt = mk) := ⟨_, rfl⟩
      rw [HMK.out] at HEQ HVM
      rw [HM2.out] at HEQ HL5
      rw [HM1.out] at HLN HEQ HVM HV HLK
      rw [HLK.out] at HLN
      have t0 := HV.out
      obtain ⟨q0, q1, q2, q3⟩ := t0.cells
      clear HV hf HMK
      have HS : Hid (∀ W v ms, Vb sq sz rt w W x y B v ms → (fun W => W.cell? ⟨fb, foff + k, none⟩ = some (.int .i64 i) ∧ W.cell? ⟨x, 1, none⟩ = some (.int .i64 sz) ∧ W.cell? ⟨x, 2, none⟩ = some (.string rt)) W) := fun W v ms h => ⟨HC0.out _ h.gr, h.cells.2.1, h.cells.2.2.1⟩
      have HSD : Hid (∀ W v v' ms, Vd sq sz rt w W x y B v v' ms → (fun W => W.cell? ⟨fb, foff + k, none⟩ = some (.int .i64 i) ∧ W.cell? ⟨x, 1, none⟩ = some (.int .i64 sz) ∧ W.cell? ⟨x, 2, none⟩ = some (.string rt)) W) := fun W v v' ms h => ⟨HC0.out _ h.gr, (blk_cell h.hx 1 rfl).1, (blk_cell h.hx 2 rfl).1⟩
      have hi0k : (0 : Int) ≤ (k : Int) := by omega
      go_upto_region 6 with fail
      refine wp_region_noPanic ?_
      refine wp_region_held_drew (S := (fun W => W.cell? ⟨fb, foff + k, none⟩ = some (.int .i64 i) ∧ W.cell? ⟨x, 1, none⟩ = some (.int .i64 sz) ∧ W.cell? ⟨x, 2, none⟩ = some (.string rt))) (by kernel_rfl) (HS.out _ _ _ t0.drew) (fun hHeld => ?_)
      refine wpAnyH_take (i := 0) (oi := { dst := some 26, op := Go.Op.fieldAddr 30 (Go.Operand.tmp 8) 3, type := 0, pos := "l10_checkpoint.go:46", after := #[], guard := none }) (v := ?v1) rfl (by kernel_rfl) (by kernel_rfl) (by kernel_rfl) (fun _ _ _ h => h) (Or.inl ⟨by rfl, ?h1⟩) hHeld ?r1
      case h1 => intro wz hz; (try dsimp only at hz); go_simp; try (with_reducible rfl)
      simp only [Act.put, List.setIfInBounds_toArray, List.set_cons_zero, List.set_cons_succ]
      refine wpAnyH_take (i := 2) (oi := { dst := some 28, op := Go.Op.move (Go.Operand.tmp 2), type := 26, pos := "l10_checkpoint.go:46", after := #[], guard := none }) (v := ?v2) rfl (by kernel_rfl) (by kernel_rfl) (by kernel_rfl) (fun _ _ _ h => h) (Or.inl ⟨by rfl, ?h2⟩) hHeld ?r2
      case h2 => intro wz hz; (try dsimp only at hz); go_simp; try (with_reducible rfl)
      simp only [Act.put, List.setIfInBounds_toArray, List.set_cons_zero, List.set_cons_succ]
      refine wpAnyH_take (i := 3) (oi := { dst := some 29, op := Go.Op.move (Go.Operand.tmp 9), type := 3, pos := "l10_checkpoint.go:46", after := #[], guard := none }) (v := ?v3) rfl (by kernel_rfl) (by kernel_rfl) (by kernel_rfl) (fun _ _ _ h => h) (Or.inl ⟨by rfl, ?h3⟩) hHeld ?r3
      case h3 => intro wz hz; (try dsimp only at hz); go_simp; try (with_reducible rfl)
      simp only [Act.put, List.setIfInBounds_toArray, List.set_cons_zero, List.set_cons_succ]
      refine wpAnyH_take (i := 4) (oi := { dst := some 30, op := Go.Op.indexAddr 26 (Go.Operand.tmp 28) (Go.Operand.tmp 29), type := 0, pos := "l10_checkpoint.go:46", after := #[{ on := 2, ground := Go.Ground.data }, { on := 3, ground := Go.Ground.data }], guard := none }) (v := ?v4) rfl (by kernel_rfl) (by kernel_rfl) (by kernel_rfl) (fun _ _ _ h => h) (Or.inl ⟨by rfl, ?h4⟩) hHeld ?r4
      case h4 => intro wz hz; (try dsimp only at hz); go_simp; try (with_reducible rfl)
      simp only [Act.put, List.setIfInBounds_toArray, List.set_cons_zero, List.set_cons_succ]
      refine wpAnyH_take (i := 5) (oi := { dst := some 31, op := Go.Op.load 3 (Go.Operand.tmp 30), type := 3, pos := "l10_checkpoint.go:46", after := #[{ on := 4, ground := Go.Ground.data }], guard := none }) (v := ?v5) rfl (by kernel_rfl) (by kernel_rfl) (by kernel_rfl) (fun _ _ _ h => h) (Or.inl ⟨by rfl, ?h5⟩) hHeld ?r5
      case h5 => intro wz hz; (try dsimp only at hz); go_simp; try (with_reducible rfl)
      simp only [Act.put, List.setIfInBounds_toArray, List.set_cons_zero, List.set_cons_succ]
      refine wpAnyH_take (i := 6) (oi := { dst := some 32, op := Go.Op.move (Go.Operand.tmp 2), type := 26, pos := "l10_checkpoint.go:46", after := #[], guard := none }) (v := ?v6) rfl (by kernel_rfl) (by kernel_rfl) (by kernel_rfl) (fun _ _ _ h => h) (Or.inl ⟨by rfl, ?h6⟩) hHeld ?r6
      case h6 => intro wz hz; (try dsimp only at hz); go_simp; try (with_reducible rfl)
      simp only [Act.put, List.setIfInBounds_toArray, List.set_cons_zero, List.set_cons_succ]
      refine wpAnyH_take (i := 7) (oi := { dst := some 33, op := Go.Op.move (Go.Operand.tmp 9), type := 3, pos := "l10_checkpoint.go:46", after := #[], guard := none }) (v := ?v7) rfl (by kernel_rfl) (by kernel_rfl) (by kernel_rfl) (fun _ _ _ h => h) (Or.inl ⟨by rfl, ?h7⟩) hHeld ?r7
      case h7 => intro wz hz; (try dsimp only at hz); go_simp; try (with_reducible rfl)
      simp only [Act.put, List.setIfInBounds_toArray, List.set_cons_zero, List.set_cons_succ]
      refine wpAnyH_take (i := 8) (oi := { dst := some 34, op := Go.Op.indexAddr 26 (Go.Operand.tmp 32) (Go.Operand.tmp 33), type := 0, pos := "l10_checkpoint.go:46", after := #[{ on := 6, ground := Go.Ground.data }, { on := 7, ground := Go.Ground.data }], guard := none }) (v := ?v8) rfl (by kernel_rfl) (by kernel_rfl) (by kernel_rfl) (fun _ _ _ h => h) (Or.inl ⟨by rfl, ?h8⟩) hHeld ?r8
      case h8 => intro wz hz; (try dsimp only at hz); go_simp; try (with_reducible rfl)
      simp only [Act.put, List.setIfInBounds_toArray, List.set_cons_zero, List.set_cons_succ]
      refine wpAnyH_take (i := 9) (oi := { dst := some 35, op := Go.Op.load 3 (Go.Operand.tmp 34), type := 3, pos := "l10_checkpoint.go:46", after := #[{ on := 8, ground := Go.Ground.data }], guard := none }) (v := ?v9) rfl (by kernel_rfl) (by kernel_rfl) (by kernel_rfl) (fun _ _ _ h => h) (Or.inl ⟨by rfl, ?h9⟩) hHeld ?r9
      case h9 => intro wz hz; (try dsimp only at hz); go_simp; try (with_reducible rfl)
      simp only [Act.put, List.setIfInBounds_toArray, List.set_cons_zero, List.set_cons_succ]
      refine wpAnyH_take (i := 10) (oi := { dst := some 36, op := Go.Op.move (Go.Operand.tmp 0), type := 3, pos := "l10_checkpoint.go:46", after := #[], guard := none }) (v := ?v10) rfl (by kernel_rfl) (by kernel_rfl) (by kernel_rfl) (fun _ _ _ h => h) (Or.inl ⟨by rfl, ?h10⟩) hHeld ?r10
      case h10 => intro wz hz; (try dsimp only at hz); go_simp; try (with_reducible rfl)
      simp only [Act.put, List.setIfInBounds_toArray, List.set_cons_zero, List.set_cons_succ]
      refine wpAnyH_take (i := 11) (oi := { dst := some 37, op := Go.Op.fieldAddr 30 (Go.Operand.tmp 8) 1, type := 0, pos := "l10_checkpoint.go:46", after := #[], guard := none }) (v := ?v11) rfl (by kernel_rfl) (by kernel_rfl) (by kernel_rfl) (fun _ _ _ h => h) (Or.inl ⟨by rfl, ?h11⟩) hHeld ?r11
      case h11 => intro wz hz; (try dsimp only at hz); go_simp; try (with_reducible rfl)
      simp only [Act.put, List.setIfInBounds_toArray, List.set_cons_zero, List.set_cons_succ]
      refine wpAnyH_take (i := 12) (oi := { dst := some 38, op := Go.Op.load 3 (Go.Operand.tmp 37), type := 3, pos := "l10_checkpoint.go:46", after := #[{ on := 11, ground := Go.Ground.data }], guard := none }) (v := ?v12) rfl (by kernel_rfl) (by kernel_rfl) (by kernel_rfl) (fun _ _ _ h => h) (Or.inl ⟨by rfl, ?h12⟩) hHeld ?r12
      case h12 => intro wz hz; (try dsimp only at hz); go_simp; try (with_reducible rfl)
      simp only [Act.put, List.setIfInBounds_toArray, List.set_cons_zero, List.set_cons_succ]
      refine wpAnyH_take (i := 13) (oi := { dst := some 39, op := Go.Op.fieldAddr 30 (Go.Operand.tmp 8) 2, type := 0, pos := "l10_checkpoint.go:46", after := #[], guard := none }) (v := ?v13) rfl (by kernel_rfl) (by kernel_rfl) (by kernel_rfl) (fun _ _ _ h => h) (Or.inl ⟨by rfl, ?h13⟩) hHeld ?r13
      case h13 => intro wz hz; (try dsimp only at hz); go_simp; try (with_reducible rfl)
      simp only [Act.put, List.setIfInBounds_toArray, List.set_cons_zero, List.set_cons_succ]
      refine wpAnyH_take (i := 14) (oi := { dst := some 40, op := Go.Op.load 9 (Go.Operand.tmp 39), type := 9, pos := "l10_checkpoint.go:46", after := #[{ on := 13, ground := Go.Ground.data }], guard := none }) (v := ?v14) rfl (by kernel_rfl) (by kernel_rfl) (by kernel_rfl) (fun _ _ _ h => h) (Or.inl ⟨by rfl, ?h14⟩) hHeld ?r14
      case h14 => intro wz hz; (try dsimp only at hz); go_simp; try (with_reducible rfl)
      simp only [Act.put, List.setIfInBounds_toArray, List.set_cons_zero, List.set_cons_succ]
      refine wpAnyH_ready (rs := [1, 15]) (by kernel_rfl) (by simp) ?_
      refine (AllReadyH.cons (o := { dst := some 27, op := Go.Op.load 28 (Go.Operand.tmp 26), type := 28, pos := "l10_checkpoint.go:46", after := #[{ on := 0, ground := Go.Ground.data }], guard := none }) rfl (fun K hK => ?_) (AllReadyH.cons (o := { dst := some 41, op := Go.Op.call { callee := Go.Callee.value (Go.Operand.func 62), args := #[Go.Operand.tmp 35, Go.Operand.tmp 36, Go.Operand.tmp 38, Go.Operand.tmp 40], argTypes := #[3, 3, 3, 9] }, type := 9, pos := "l10_checkpoint.go:46", after := #[{ on := 9, ground := Go.Ground.data }, { on := 10, ground := Go.Ground.data }, { on := 12, ground := Go.Ground.data }, { on := 14, ground := Go.Ground.data }], guard := none }) rfl (fun K hK => ?_) AllReadyH.nil))
      · go_simp
        refine hK.out _ _ ?_ (fun hHeld => ?_)
        · exact hHeld
        clear hK K
        (try simp only [Act.put, List.setIfInBounds_toArray, List.set_cons_zero, List.set_cons_succ])
        refine wpAnyH_ready (rs := [15]) (by kernel_rfl) (by simp) ?_
        refine (AllReadyH.cons (o := { dst := some 41, op := Go.Op.call { callee := Go.Callee.value (Go.Operand.func 62), args := #[Go.Operand.tmp 35, Go.Operand.tmp 36, Go.Operand.tmp 38, Go.Operand.tmp 40], argTypes := #[3, 3, 3, 9] }, type := 9, pos := "l10_checkpoint.go:46", after := #[{ on := 9, ground := Go.Ground.data }, { on := 10, ground := Go.Ground.data }, { on := 12, ground := Go.Ground.data }, { on := 14, ground := Go.Ground.data }], guard := none }) rfl (fun K hK => ?_) AllReadyH.nil)
        go_simp
        go_at_call 62
        refine (HVM.out _ (by first | assumption | exact Vb.drew (by assumption))).mono ?_
        rintro e wn ⟨rfl, tn⟩
        obtain ⟨e0, e1, e2, e3⟩ := tn.cells
        have ea := fun o => (Vb.alloc tn o).cells.2.2.2
        try go_simp
        refine hK.out _ _ ?_ (fun hHeld => ?_)
        · exact HS.out _ _ _ tn
        clear hK K
        (try simp only [Act.put, List.setIfInBounds_toArray, List.set_cons_zero, List.set_cons_succ])
        refine wpAnyH_take (i := 16) (oi := { dst := some 42, op := Go.Op.build 112 #[(0, Go.Operand.tmp 31), (1, Go.Operand.tmp 41)], type := 112, pos := "l10_checkpoint.go:46", after := #[{ on := 5, ground := Go.Ground.data }, { on := 15, ground := Go.Ground.data }], guard := none }) (v := ?v15) rfl (by kernel_rfl) (by kernel_rfl) (by kernel_rfl) (fun _ _ _ h => h) (Or.inl ⟨by rfl, ?h15⟩) hHeld ?r15
        case h15 => intro wz hz; (try dsimp only at hz); go_simp; try (with_reducible rfl)
        simp only [Act.put, List.setIfInBounds_toArray, List.set_cons_zero, List.set_cons_succ]
        refine wpAnyH_ready (rs := [17]) (by kernel_rfl) (by simp) ?_
        refine (AllReadyH.cons (o := { dst := some 43, op := Go.Op.buildSlice 28 1 #[(0, Go.Operand.tmp 42)], type := 28, pos := "l10_checkpoint.go:46", after := #[{ on := 16, ground := Go.Ground.data }], guard := none }) rfl (fun K hK => ?_) AllReadyH.nil)
        go_simp
        refine hK.out _ _ ?_ (fun hHeld => ?_)
        · exact HS.out _ _ _ (Vb.alloc tn _)
        clear hK K
        (try simp only [Act.put, List.setIfInBounds_toArray, List.set_cons_zero, List.set_cons_succ])
        refine wpAnyH_ready (rs := [18]) (by kernel_rfl) (by simp) ?_
        refine (AllReadyH.cons (o := { dst := some 44, op := Go.Op.call { callee := Go.Callee.builtin Go.Builtin.append, args := #[Go.Operand.tmp 27, Go.Operand.tmp 43], argTypes := #[28, 28] }, type := 28, pos := "l10_checkpoint.go:46", after := #[{ on := 1, ground := Go.Ground.data }, { on := 17, ground := Go.Ground.data }, { on := 15, ground := Go.Ground.chain }], guard := none }) rfl (fun K hK => ?_) AllReadyH.nil)
        refine step_vb (by rfl) _ _ 28 (by rfl) Tryz.underlying28 hi0 hz0 hz1 hz2 sq sz rt _ w x y B _ ms ⟨(i : Int), mk⟩ (by rfl) _ (by rfl) (heap_alloc_new _ _) (Vb.alloc tn _) (by rw [HLK.out]; exact HLN.out) ?_
        intro v5 w5 t5
        rw [← HEQ.out] at t5
        obtain ⟨a5, cap5, rfl⟩ := t5.own.slice
        rw [HL5.out] at t5 ⊢
        obtain ⟨s5, f5⟩ := t5.cells
        refine hK.out _ _ ?_ (fun hHeld => ?_)
        · exact HSD.out _ _ _ _ t5
        clear hK K
        (try simp only [Act.put, List.setIfInBounds_toArray, List.set_cons_zero, List.set_cons_succ])
        refine wpAnyH_take (i := 19) (oi := { dst := some 45, op := Go.Op.fieldAddr 30 (Go.Operand.tmp 8) 3, type := 0, pos := "l10_checkpoint.go:46", after := #[{ on := 0, ground := Go.Ground.phase }, { on := 1, ground := Go.Ground.phase }, { on := 2, ground := Go.Ground.phase }, { on := 3, ground := Go.Ground.phase }, { on := 4, ground := Go.Ground.phase }, { on := 5, ground := Go.Ground.phase }, { on := 6, ground := Go.Ground.phase }, { on := 7, ground := Go.Ground.phase }, { on := 8, ground := Go.Ground.phase }, { on := 9, ground := Go.Ground.phase }, { on := 10, ground := Go.Ground.phase }, { on := 11, ground := Go.Ground.phase }, { on := 12, ground := Go.Ground.phase }, { on := 13, ground := Go.Ground.phase }, { on := 14, ground := Go.Ground.phase }, { on := 15, ground := Go.Ground.phase }, { on := 16, ground := Go.Ground.phase }, { on := 17, ground := Go.Ground.phase }, { on := 18, ground := Go.Ground.phase }], guard := none }) (v := ?v16) rfl (by kernel_rfl) (by kernel_rfl) (by kernel_rfl) (fun _ _ _ h => h) (Or.inl ⟨by rfl, ?h16⟩) hHeld ?r16
        case h16 => intro wz hz; (try dsimp only at hz); go_simp; try (with_reducible rfl)
        simp only [Act.put, List.setIfInBounds_toArray, List.set_cons_zero, List.set_cons_succ]
        refine wpAnyH_ready (rs := [20]) (by kernel_rfl) (by simp) ?_
        refine (AllReadyH.cons (o := { dst := none, op := Go.Op.store 28 (Go.Operand.tmp 45) (Go.Operand.tmp 44), type := 0, pos := "l10_checkpoint.go:46", after := #[{ on := 19, ground := Go.Ground.data }, { on := 18, ground := Go.Ground.data }, { on := 18, ground := Go.Ground.chain }, { on := 0, ground := Go.Ground.phase }, { on := 1, ground := Go.Ground.phase }, { on := 2, ground := Go.Ground.phase }, { on := 3, ground := Go.Ground.phase }, { on := 4, ground := Go.Ground.phase }, { on := 5, ground := Go.Ground.phase }, { on := 6, ground := Go.Ground.phase }, { on := 7, ground := Go.Ground.phase }, { on := 8, ground := Go.Ground.phase }, { on := 9, ground := Go.Ground.phase }, { on := 10, ground := Go.Ground.phase }, { on := 11, ground := Go.Ground.phase }, { on := 12, ground := Go.Ground.phase }, { on := 13, ground := Go.Ground.phase }, { on := 14, ground := Go.Ground.phase }, { on := 15, ground := Go.Ground.phase }, { on := 16, ground := Go.Ground.phase }, { on := 17, ground := Go.Ground.phase }, { on := 18, ground := Go.Ground.phase }], guard := none }) rfl (fun K hK => ?_) AllReadyH.nil)
        go_simp
        refine hK.out _ _ ?_ (fun hHeld => ?_)
        · exact HS.out _ _ _ t5.set
        clear hK K
        (try simp only [Act.put, List.setIfInBounds_toArray, List.set_cons_zero, List.set_cons_succ])
        refine wpAnyH_done (by kernel_rfl) ?_ _
        refine NoPanic.normal ?_
        have T5 : Hid (Vb sq sz rt w (w5.setCell ⟨x, 3, none⟩ (.slice a5 (k + 1) cap5)) x y B (.slice a5 (k + 1) cap5) ms2) := t5.set
        clear t5 t0 q0 q1 q2 q3
        go_wp2_with fail
        exact ⟨⟨k + 1, a5, cap5, by omega, by go_num, by rw [HM2.out]; exact T5⟩, by simp [intOf]; omega⟩
      · go_simp
        go_at_call 62
        refine (HVM.out _ (by first | assumption | exact Vb.drew (by assumption))).mono ?_
        rintro e wn ⟨rfl, tn⟩
        obtain ⟨e0, e1, e2, e3⟩ := tn.cells
        have ea := fun o => (Vb.alloc tn o).cells.2.2.2
        try go_simp
        refine hK.out _ _ ?_ (fun hHeld => ?_)
        · exact HS.out _ _ _ tn
        clear hK K
        (try simp only [Act.put, List.setIfInBounds_toArray, List.set_cons_zero, List.set_cons_succ])
        refine wpAnyH_take (i := 16) (oi := { dst := some 42, op := Go.Op.build 112 #[(0, Go.Operand.tmp 31), (1, Go.Operand.tmp 41)], type := 112, pos := "l10_checkpoint.go:46", after := #[{ on := 5, ground := Go.Ground.data }, { on := 15, ground := Go.Ground.data }], guard := none }) (v := ?v17) rfl (by kernel_rfl) (by kernel_rfl) (by kernel_rfl) (fun _ _ _ h => h) (Or.inl ⟨by rfl, ?h17⟩) hHeld ?r17
        case h17 => intro wz hz; (try dsimp only at hz); go_simp; try (with_reducible rfl)
        simp only [Act.put, List.setIfInBounds_toArray, List.set_cons_zero, List.set_cons_succ]
        refine wpAnyH_ready (rs := [1, 17]) (by kernel_rfl) (by simp) ?_
        refine (AllReadyH.cons (o := { dst := some 27, op := Go.Op.load 28 (Go.Operand.tmp 26), type := 28, pos := "l10_checkpoint.go:46", after := #[{ on := 0, ground := Go.Ground.data }], guard := none }) rfl (fun K hK => ?_) (AllReadyH.cons (o := { dst := some 43, op := Go.Op.buildSlice 28 1 #[(0, Go.Operand.tmp 42)], type := 28, pos := "l10_checkpoint.go:46", after := #[{ on := 16, ground := Go.Ground.data }], guard := none }) rfl (fun K hK => ?_) AllReadyH.nil))
        · go_simp
          refine hK.out _ _ ?_ (fun hHeld => ?_)
          · exact hHeld
          clear hK K
          (try simp only [Act.put, List.setIfInBounds_toArray, List.set_cons_zero, List.set_cons_succ])
          refine wpAnyH_ready (rs := [17]) (by kernel_rfl) (by simp) ?_
          refine (AllReadyH.cons (o := { dst := some 43, op := Go.Op.buildSlice 28 1 #[(0, Go.Operand.tmp 42)], type := 28, pos := "l10_checkpoint.go:46", after := #[{ on := 16, ground := Go.Ground.data }], guard := none }) rfl (fun K hK => ?_) AllReadyH.nil)
          go_simp
          refine hK.out _ _ ?_ (fun hHeld => ?_)
          · exact HS.out _ _ _ (Vb.alloc tn _)
          clear hK K
          (try simp only [Act.put, List.setIfInBounds_toArray, List.set_cons_zero, List.set_cons_succ])
          refine wpAnyH_ready (rs := [18]) (by kernel_rfl) (by simp) ?_
          refine (AllReadyH.cons (o := { dst := some 44, op := Go.Op.call { callee := Go.Callee.builtin Go.Builtin.append, args := #[Go.Operand.tmp 27, Go.Operand.tmp 43], argTypes := #[28, 28] }, type := 28, pos := "l10_checkpoint.go:46", after := #[{ on := 1, ground := Go.Ground.data }, { on := 17, ground := Go.Ground.data }, { on := 15, ground := Go.Ground.chain }], guard := none }) rfl (fun K hK => ?_) AllReadyH.nil)
          refine step_vb (by rfl) _ _ 28 (by rfl) Tryz.underlying28 hi0 hz0 hz1 hz2 sq sz rt _ w x y B _ ms ⟨(i : Int), mk⟩ (by rfl) _ (by rfl) (heap_alloc_new _ _) (Vb.alloc tn _) (by rw [HLK.out]; exact HLN.out) ?_
          intro v5 w5 t5
          rw [← HEQ.out] at t5
          obtain ⟨a5, cap5, rfl⟩ := t5.own.slice
          rw [HL5.out] at t5 ⊢
          obtain ⟨s5, f5⟩ := t5.cells
          refine hK.out _ _ ?_ (fun hHeld => ?_)
          · exact HSD.out _ _ _ _ t5
          clear hK K
          (try simp only [Act.put, List.setIfInBounds_toArray, List.set_cons_zero, List.set_cons_succ])
          refine wpAnyH_take (i := 19) (oi := { dst := some 45, op := Go.Op.fieldAddr 30 (Go.Operand.tmp 8) 3, type := 0, pos := "l10_checkpoint.go:46", after := #[{ on := 0, ground := Go.Ground.phase }, { on := 1, ground := Go.Ground.phase }, { on := 2, ground := Go.Ground.phase }, { on := 3, ground := Go.Ground.phase }, { on := 4, ground := Go.Ground.phase }, { on := 5, ground := Go.Ground.phase }, { on := 6, ground := Go.Ground.phase }, { on := 7, ground := Go.Ground.phase }, { on := 8, ground := Go.Ground.phase }, { on := 9, ground := Go.Ground.phase }, { on := 10, ground := Go.Ground.phase }, { on := 11, ground := Go.Ground.phase }, { on := 12, ground := Go.Ground.phase }, { on := 13, ground := Go.Ground.phase }, { on := 14, ground := Go.Ground.phase }, { on := 15, ground := Go.Ground.phase }, { on := 16, ground := Go.Ground.phase }, { on := 17, ground := Go.Ground.phase }, { on := 18, ground := Go.Ground.phase }], guard := none }) (v := ?v18) rfl (by kernel_rfl) (by kernel_rfl) (by kernel_rfl) (fun _ _ _ h => h) (Or.inl ⟨by rfl, ?h18⟩) hHeld ?r18
          case h18 => intro wz hz; (try dsimp only at hz); go_simp; try (with_reducible rfl)
          simp only [Act.put, List.setIfInBounds_toArray, List.set_cons_zero, List.set_cons_succ]
          refine wpAnyH_ready (rs := [20]) (by kernel_rfl) (by simp) ?_
          refine (AllReadyH.cons (o := { dst := none, op := Go.Op.store 28 (Go.Operand.tmp 45) (Go.Operand.tmp 44), type := 0, pos := "l10_checkpoint.go:46", after := #[{ on := 19, ground := Go.Ground.data }, { on := 18, ground := Go.Ground.data }, { on := 18, ground := Go.Ground.chain }, { on := 0, ground := Go.Ground.phase }, { on := 1, ground := Go.Ground.phase }, { on := 2, ground := Go.Ground.phase }, { on := 3, ground := Go.Ground.phase }, { on := 4, ground := Go.Ground.phase }, { on := 5, ground := Go.Ground.phase }, { on := 6, ground := Go.Ground.phase }, { on := 7, ground := Go.Ground.phase }, { on := 8, ground := Go.Ground.phase }, { on := 9, ground := Go.Ground.phase }, { on := 10, ground := Go.Ground.phase }, { on := 11, ground := Go.Ground.phase }, { on := 12, ground := Go.Ground.phase }, { on := 13, ground := Go.Ground.phase }, { on := 14, ground := Go.Ground.phase }, { on := 15, ground := Go.Ground.phase }, { on := 16, ground := Go.Ground.phase }, { on := 17, ground := Go.Ground.phase }, { on := 18, ground := Go.Ground.phase }], guard := none }) rfl (fun K hK => ?_) AllReadyH.nil)
          go_simp
          refine hK.out _ _ ?_ (fun hHeld => ?_)
          · exact HS.out _ _ _ t5.set
          clear hK K
          (try simp only [Act.put, List.setIfInBounds_toArray, List.set_cons_zero, List.set_cons_succ])
          refine wpAnyH_done (by kernel_rfl) ?_ _
          refine NoPanic.normal ?_
          have T5 : Hid (Vb sq sz rt w (w5.setCell ⟨x, 3, none⟩ (.slice a5 (k + 1) cap5)) x y B (.slice a5 (k + 1) cap5) ms2) := t5.set
          clear t5 t0 q0 q1 q2 q3
          go_wp2_with fail
          exact ⟨⟨k + 1, a5, cap5, by omega, by go_num, by rw [HM2.out]; exact T5⟩, by simp [intOf]; omega⟩
        · go_simp
          refine hK.out _ _ ?_ (fun hHeld => ?_)
          · exact HS.out _ _ _ (Vb.alloc tn _)
          clear hK K
          (try simp only [Act.put, List.setIfInBounds_toArray, List.set_cons_zero, List.set_cons_succ])
          refine wpAnyH_ready (rs := [1]) (by kernel_rfl) (by simp) ?_
          refine (AllReadyH.cons (o := { dst := some 27, op := Go.Op.load 28 (Go.Operand.tmp 26), type := 28, pos := "l10_checkpoint.go:46", after := #[{ on := 0, ground := Go.Ground.data }], guard := none }) rfl (fun K hK => ?_) AllReadyH.nil)
          go_simp
          refine hK.out _ _ ?_ (fun hHeld => ?_)
          · exact hHeld
          clear hK K
          (try simp only [Act.put, List.setIfInBounds_toArray, List.set_cons_zero, List.set_cons_succ])
          refine wpAnyH_ready (rs := [18]) (by kernel_rfl) (by simp) ?_
          refine (AllReadyH.cons (o := { dst := some 44, op := Go.Op.call { callee := Go.Callee.builtin Go.Builtin.append, args := #[Go.Operand.tmp 27, Go.Operand.tmp 43], argTypes := #[28, 28] }, type := 28, pos := "l10_checkpoint.go:46", after := #[{ on := 1, ground := Go.Ground.data }, { on := 17, ground := Go.Ground.data }, { on := 15, ground := Go.Ground.chain }], guard := none }) rfl (fun K hK => ?_) AllReadyH.nil)
          refine step_vb (by rfl) _ _ 28 (by rfl) Tryz.underlying28 hi0 hz0 hz1 hz2 sq sz rt _ w x y B _ ms ⟨(i : Int), mk⟩ (by rfl) _ (by rfl) (heap_alloc_new _ _) (Vb.alloc tn _) (by rw [HLK.out]; exact HLN.out) ?_
          intro v5 w5 t5
          rw [← HEQ.out] at t5
          obtain ⟨a5, cap5, rfl⟩ := t5.own.slice
          rw [HL5.out] at t5 ⊢
          obtain ⟨s5, f5⟩ := t5.cells
          refine hK.out _ _ ?_ (fun hHeld => ?_)
          · exact HSD.out _ _ _ _ t5
          clear hK K
          (try simp only [Act.put, List.setIfInBounds_toArray, List.set_cons_zero, List.set_cons_succ])
          refine wpAnyH_take (i := 19) (oi := { dst := some 45, op := Go.Op.fieldAddr 30 (Go.Operand.tmp 8) 3, type := 0, pos := "l10_checkpoint.go:46", after := #[{ on := 0, ground := Go.Ground.phase }, { on := 1, ground := Go.Ground.phase }, { on := 2, ground := Go.Ground.phase }, { on := 3, ground := Go.Ground.phase }, { on := 4, ground := Go.Ground.phase }, { on := 5, ground := Go.Ground.phase }, { on := 6, ground := Go.Ground.phase }, { on := 7, ground := Go.Ground.phase }, { on := 8, ground := Go.Ground.phase }, { on := 9, ground := Go.Ground.phase }, { on := 10, ground := Go.Ground.phase }, { on := 11, ground := Go.Ground.phase }, { on := 12, ground := Go.Ground.phase }, { on := 13, ground := Go.Ground.phase }, { on := 14, ground := Go.Ground.phase }, { on := 15, ground := Go.Ground.phase }, { on := 16, ground := Go.Ground.phase }, { on := 17, ground := Go.Ground.phase }, { on := 18, ground := Go.Ground.phase }], guard := none }) (v := ?v19) rfl (by kernel_rfl) (by kernel_rfl) (by kernel_rfl) (fun _ _ _ h => h) (Or.inl ⟨by rfl, ?h19⟩) hHeld ?r19
          case h19 => intro wz hz; (try dsimp only at hz); go_simp; try (with_reducible rfl)
          simp only [Act.put, List.setIfInBounds_toArray, List.set_cons_zero, List.set_cons_succ]
          refine wpAnyH_ready (rs := [20]) (by kernel_rfl) (by simp) ?_
          refine (AllReadyH.cons (o := { dst := none, op := Go.Op.store 28 (Go.Operand.tmp 45) (Go.Operand.tmp 44), type := 0, pos := "l10_checkpoint.go:46", after := #[{ on := 19, ground := Go.Ground.data }, { on := 18, ground := Go.Ground.data }, { on := 18, ground := Go.Ground.chain }, { on := 0, ground := Go.Ground.phase }, { on := 1, ground := Go.Ground.phase }, { on := 2, ground := Go.Ground.phase }, { on := 3, ground := Go.Ground.phase }, { on := 4, ground := Go.Ground.phase }, { on := 5, ground := Go.Ground.phase }, { on := 6, ground := Go.Ground.phase }, { on := 7, ground := Go.Ground.phase }, { on := 8, ground := Go.Ground.phase }, { on := 9, ground := Go.Ground.phase }, { on := 10, ground := Go.Ground.phase }, { on := 11, ground := Go.Ground.phase }, { on := 12, ground := Go.Ground.phase }, { on := 13, ground := Go.Ground.phase }, { on := 14, ground := Go.Ground.phase }, { on := 15, ground := Go.Ground.phase }, { on := 16, ground := Go.Ground.phase }, { on := 17, ground := Go.Ground.phase }, { on := 18, ground := Go.Ground.phase }], guard := none }) rfl (fun K hK => ?_) AllReadyH.nil)
          go_simp
          refine hK.out _ _ ?_ (fun hHeld => ?_)
          · exact HS.out _ _ _ t5.set
          clear hK K
          (try simp only [Act.put, List.setIfInBounds_toArray, List.set_cons_zero, List.set_cons_succ])
          refine wpAnyH_done (by kernel_rfl) ?_ _
          refine NoPanic.normal ?_
          have T5 : Hid (Vb sq sz rt w (w5.setCell ⟨x, 3, none⟩ (.slice a5 (k + 1) cap5)) x y B (.slice a5 (k + 1) cap5) ms2) := t5.set
          clear t5 t0 q0 q1 q2 q3
          go_wp2_with fail
          exact ⟨⟨k + 1, a5, cap5, by omega, by go_num, by rw [HM2.out]; exact T5⟩, by simp [intOf]; omega⟩
    · obtain rfl : k = fs.length := by omega
      have p0 := (blk_cell HV.out.hx 0 (x := .int .i64 sq) rfl).1
      have p1 := (blk_cell HV.out.hx 1 (x := .int .i64 sz) rfl).1
      have p2 := (blk_cell HV.out.hx 2 (x := .string rt) rfl).1
      have p3 := (blk_cell HV.out.hx 3 (x := .slice va fs.length vc) rfl).1
      obtain ⟨m0, n0⟩ := blk_cell HV.out.hy 0 (x := .int .i64 0) rfl
      obtain ⟨m1, n1⟩ := blk_cell HV.out.hy 1 (x := .int .i64 0) rfl
      obtain ⟨m2, n2⟩ := blk_cell HV.out.hy 2 (x := .string ⟨#[]⟩) rfl
      obtain ⟨m3, n3⟩ := blk_cell HV.out.hy 3 (x := .slice none 0 0) rfl
      have AF : ((((wr.setCell ⟨y, 0, none⟩ (.int .i64 sq)).setCell ⟨y, 1, none⟩ (.int .i64 sz)).setCell ⟨y, 2, none⟩ (.string rt)).setCell ⟨y, 3, none⟩ (.slice va fs.length vc)).heap[y]? = some (.cells #[.int .i64 sq, .int .i64 sz, .string rt, .slice va fs.length vc] 30 (0, 0)) := (blk_set (blk_set (blk_set (blk_set HV.out.hy 0 (.int .i64 sq)) 1 (.int .i64 sz)) 2 (.string rt)) 3 (.slice va fs.length vc))
      have RF : Hid (OwnV ((((wr.setCell ⟨y, 0, none⟩ (.int .i64 sq)).setCell ⟨y, 1, none⟩ (.int .i64 sz)).setCell ⟨y, 2, none⟩ (.string rt)).setCell ⟨y, 3, none⟩ (.slice va fs.length vc)) B (.slice va fs.length vc) (vtTo sq sz rt fs fs.length) ∧ Below w.heap.size w ((((wr.setCell ⟨y, 0, none⟩ (.int .i64 sq)).setCell ⟨y, 1, none⟩ (.int .i64 sz)).setCell ⟨y, 2, none⟩ (.string rt)).setCell ⟨y, 3, none⟩ (.slice va fs.length vc))) := ⟨HV.out.own.kept (fun g hg => ((blk_far (own_ne HV.out.own HV.out.hy g hg) 3 (.slice va fs.length vc)).trans ((blk_far (own_ne HV.out.own HV.out.hy g hg) 2 (.string rt)).trans ((blk_far (own_ne HV.out.own HV.out.hy g hg) 1 (.int .i64 sz)).trans ((blk_far (own_ne HV.out.own HV.out.hy g hg) 0 (.int .i64 sq)).trans (Eq.refl wr.heap[g]?)))))), (Below.setCell (Below.setCell (Below.setCell (Below.setCell HV.out.gr (p := ⟨y, 0, none⟩) (by show _ ≤ y; have := HV.out.lt; omega) (.int .i64 sq)) (p := ⟨y, 1, none⟩) (by show _ ≤ y; have := HV.out.lt; omega) (.int .i64 sz)) (p := ⟨y, 2, none⟩) (by show _ ≤ y; have := HV.out.lt; omega) (.string rt)) (p := ⟨y, 3, none⟩) (by show _ ≤ y; have := HV.out.lt; omega) (.slice va fs.length vc))⟩
      clear HV
      go_wp2_with fail
      generalize ((((wr.setCell ⟨y, 0, none⟩ (.int .i64 sq)).setCell ⟨y, 1, none⟩ (.int .i64 sz)).setCell ⟨y, 2, none⟩ (.string rt)).setCell ⟨y, 3, none⟩ (.slice va fs.length vc)) = wf at AF RF ⊢
      have d0 := (blk_cell AF 0 (x := .int .i64 sq) rfl).1
      have d1 := (blk_cell AF 1 (x := .int .i64 sz) rfl).1
      have d2 := (blk_cell AF 2 (x := .string rt) rfl).1
      have d3 := (blk_cell AF 3 (x := .slice va fs.length vc) rfl).1
      exact bodyPost_ret (v := stV sq sz rt (.slice va fs.length vc)) (by simp [stV, results, Tryz.results32, go_sem, d0, d1, d2, d3]) rfl ⟨_, rfl, RF.out.1.mono (by have := HBB.out; omega), RF.out.2⟩
end Go.Proofs.YtnebohdlndiejaaGreatDoor.Xo

/- MakeStable, of the program and of the specification. -/
namespace Go.Proofs.YtnebohdlndiejaaGreatDoor.Xo
open Go.RowKit Go.Proofs.YtnebohdlndiejaaGreatDoor.Sl Go.Proofs.YtnebohdlndiejaaGreatDoor.Rg Go.Proofs.YtnebohdlndiejaaGreatDoor.Xv
open Go.Proofs.YtnebohdlndiejaaGreatDoor.Gt (Vo)
open Go.Proofs.YtnebohdlndiejaaGreatDoor.Hs (stV)
open Go.Proofs.YtnebohdlndiejaaGreatDoor.Sh (KTab KTab.below)
open Go.Proofs.YtnebohdlndiejaaGreatDoor.Xq (RowJ RowJ.below RowJ.at)
open Go.Proofs.YtnebohdlndiejaaGreatDoor.Tb (Lk Sn Tab RowL RowS RowL.below RowS.below tabV)
open Go.Proofs.YtnebohdlndiejaaGreatDoor.Tp (TOK bOf bOf_true bOf_false)
open Go.Proofs.YtnebohdlndiejaaGreatDoor.Pt (tabBs Bnd tok_bnd lsBs lsBs_le ssBs ssBs_len tbOut tbCode)
open Go.Proofs.YtnebohdlndiejaaGreatDoor.Ps (l05Bytes_any)
open Go.Proofs.YtnebohdlndiejaaGreatDoor.Pu (nums nums_range nums_length)
open Go.Proofs.YtnebohdlndiejaaGreatDoor.Sl (RowB)
open Go.Proofs.YtnebohdlndiejaaGreatDoor.Ap (own_rowB)
open Go.Proofs.YtnebohdlndiejaaGreatDoor.Tx (RowT OwnS)
open Go.Proofs.YtnebohdlndiejaaGreatDoor.Pg (cutTo cutN cutL cutC cut_ok l09Cut_any implCutPieces_any pcn)
open Go.Proofs.YtnebohdlndiejaaGreatDoor.Py (rootF rootF_size l09Root_any rootOf_any)
open Go.Proofs.YtnebohdlndiejaaGreatDoor.Fz (range_append)



open Go.Proofs.YtnebohdlndiejaaGreatDoor.Er
open Go.Proofs.YtnebohdlndiejaaGreatDoor.Xq (qvB qv_iff isV isV_frn frn okN okN_iff f_four f_small)
open Go.Proofs.YtnebohdlndiejaaGreatDoor.Tm (fCode fOut)
open Go.Proofs.YtnebohdlndiejaaGreatDoor.Qm (qOut inB)
open Go.Proofs.YtnebohdlndiejaaGreatDoor.Rm (inR)

set_option maxRecDepth 100000 in
set_option maxHeartbeats 1600000 in
theorem implMakeStable_any (n sq tm nx : Int) (vl vs : Value) (ls : List Lk) (ss : List Sn) (u : Value) (fs : List Int) (w : World) (A : Nat → Addr) (hL : RowL w vl ls) (hS : RowS w vs ss) (hw : ∀ x ∈ ls, x.n.size ≤ 1048576 ∧ x.ws.length ≤ 1048576) (hy1 : ls.length ≤ 1048576) (hy2 : ss.length ≤ 1048576) (h : RowJ w u fs) (hfl : fs.length ≤ 1048576) (hSe : Sen w A) (hK : KTab w) (hp : 10 < w.heap.size) :
    Calls Tryz.prog 9 #[.int .i64 n, .int .i64 sq, tabV tm nx vl vs, u] w fun e w' => ∃ v, e = .returned (.tuple #[stV (msQ n sq tm nx ls ss fs) (msZ n sq tm nx ls ss fs) (msR n sq tm nx ls ss fs) v, .int .i64 (msC n sq tm nx ls ss fs)]) ∧ OwnV w' w.heap.size v (msL n sq tm nx ls ss fs) ∧ Below w.heap.size w w' := by
  have HVT : Hid (∀ W, Below w.heap.size w W → Calls Tryz.prog 35 #[.int .i64 n, .int .i64 sq, tabV tm nx vl vs, u] W fun e w' => ∃ v er, e = .returned (.tuple #[stV (msQ n sq tm nx ls ss fs) (msZ n sq tm nx ls ss fs) (msR n sq tm nx ls ss fs) v, er]) ∧ ((msC n sq tm nx ls ss fs = 0 ∧ er = .nilIface) ∨ ∃ s j, j < 8 ∧ er = fnd s (sen (A j)) ∧ fcode j = msC n sq tm nx ls ss fs) ∧ OwnV w' w.heap.size v (msL n sq tm nx ls ss fs) ∧ Below W.heap.size W w') := fun W hW => (votedTable_any n sq tm nx vl vs ls ss u fs W A (hL.below hW) (hS.below hW) hw hy1 hy2 (h.below hW) hfl (hSe.below hW) (hK.below hW hp) (Nat.lt_of_lt_of_le hp hW.size)).mono fun e w' ⟨v, er, h1, h2, h3, h4⟩ => ⟨v, er, h1, h2, h3.mono hW.size, h4⟩
  have HCO : Hid (∀ W er, Below w.heap.size w W → ((msC n sq tm nx ls ss fs = 0 ∧ er = .nilIface) ∨ ∃ s j, j < 8 ∧ er = fnd s (sen (A j)) ∧ fcode j = msC n sq tm nx ls ss fs) → Calls Tryz.prog 36 #[er] W fun e w' => e = .returned (.int .i64 (msC n sq tm nx ls ss fs)) ∧ Below W.heap.size W w') := fun W er hW hh => by
    rcases hh with ⟨h1, rfl⟩ | ⟨s, j, hj, rfl, hc⟩
    · rw [h1]; exact codeOfFault_nil W
    · rw [← hc]; exact code1_any s j hj (hSe.below hW)
  obtain ⟨la, lc, rfl⟩ := Tb.RowG.slice hL
  obtain ⟨sa, sc, rfl⟩ := Tb.RowG.slice hS
  have e2 : ((w.alloc (.cells #[.int .i64 tm, .int .i64 nx, .slice la ls.length lc, .slice sa ss.length sc] 36)).alloc (.cells #[.int .i64 0, .int .i64 0, .string ⟨#[]⟩, .slice none 0 0] 30)).heap.size = w.heap.size + 1 + 1 := by rw [size_new, size_new]
  have HX0 : Hid (∀ W, Below ((w.alloc (.cells #[.int .i64 tm, .int .i64 nx, .slice la ls.length lc, .slice sa ss.length sc] 36)).alloc (.cells #[.int .i64 0, .int .i64 0, .string ⟨#[]⟩, .slice none 0 0] 30)).heap.size ((w.alloc (.cells #[.int .i64 tm, .int .i64 nx, .slice la ls.length lc, .slice sa ss.length sc] 36)).alloc (.cells #[.int .i64 0, .int .i64 0, .string ⟨#[]⟩, .slice none 0 0] 30)) W → (W.cell? ⟨w.heap.size, 0, none⟩ = some (.int .i64 tm) ∧ W.cell? ⟨w.heap.size, 1, none⟩ = some (.int .i64 nx) ∧ W.cell? ⟨w.heap.size, 2, none⟩ = some (.slice la ls.length lc) ∧ W.cell? ⟨w.heap.size, 3, none⟩ = some (.slice sa ss.length sc))) := fun W hW => by
    have h0 : W.heap[w.heap.size]? = some (.cells #[.int .i64 tm, .int .i64 nx, .slice la ls.length lc, .slice sa ss.length sc] 36) := by rw [hW.block _ (by omega), Below.heap_alloc _ _ _ (by rw [size_new]; omega)]; exact heap_alloc_new w _
    exact ⟨(blk_cell h0 0 rfl).1, (blk_cell h0 1 rfl).1, (blk_cell h0 2 rfl).1, (blk_cell h0 3 rfl).1⟩
  have HY0 : Hid (∀ W, Below ((w.alloc (.cells #[.int .i64 tm, .int .i64 nx, .slice la ls.length lc, .slice sa ss.length sc] 36)).alloc (.cells #[.int .i64 0, .int .i64 0, .string ⟨#[]⟩, .slice none 0 0] 30)).heap.size ((w.alloc (.cells #[.int .i64 tm, .int .i64 nx, .slice la ls.length lc, .slice sa ss.length sc] 36)).alloc (.cells #[.int .i64 0, .int .i64 0, .string ⟨#[]⟩, .slice none 0 0] 30)) W → W.heap[w.heap.size + 1]? = some (.cells #[.int .i64 0, .int .i64 0, .string ⟨#[]⟩, .slice none 0 0] 30) ∧ Below w.heap.size w W) := fun W hW => by
    have h1 : W.heap[w.heap.size + 1]? = some (.cells #[.int .i64 0, .int .i64 0, .string ⟨#[]⟩, .slice none 0 0] 30) := by rw [hW.block _ (by omega)]; have := heap_alloc_new (w.alloc (.cells #[.int .i64 tm, .int .i64 nx, .slice la ls.length lc, .slice sa ss.length sc] 36)) (.cells #[.int .i64 0, .int .i64 0, .string ⟨#[]⟩, .slice none 0 0] 30); rwa [size_new] at this
    exact ⟨h1, (((Below.refl w.heap.size w).alloc (Nat.le_refl _) _).alloc (by rw [size_new]; omega) _).trans (hW.mono (by omega))⟩
  have HYL0 : Hid (w.heap.size ≤ w.heap.size + 1) := Nat.le_succ _
  have HM : Hid (Ms n sq tm nx ls ss fs (msC n sq tm nx ls ss fs) (msQ n sq tm nx ls ss fs) (msZ n sq tm nx ls ss fs) (msR n sq tm nx ls ss fs) (msL n sq tm nx ls ss fs)) := ⟨rfl, rfl, rfl, rfl, rfl⟩
  clear hL hS hw hy1 hy2 h hSe hK hp e2
  have HPO : ∀ (e : Ending) (w' : World), (∃ v, e = .returned (.tuple #[stV (msQ n sq tm nx ls ss fs) (msZ n sq tm nx ls ss fs) (msR n sq tm nx ls ss fs) v, .int .i64 (msC n sq tm nx ls ss fs)]) ∧ OwnV w' w.heap.size v (msL n sq tm nx ls ss fs) ∧ Below w.heap.size w w') → (∃ v, e = .returned (.tuple #[stV (msQ n sq tm nx ls ss fs) (msZ n sq tm nx ls ss fs) (msR n sq tm nx ls ss fs) v, .int .i64 (msC n sq tm nx ls ss fs)]) ∧ OwnV w' w.heap.size v (msL n sq tm nx ls ss fs) ∧ Below w.heap.size w w') := fun _ _ h => h
  clear HPO HM
  generalize msC n sq tm nx ls ss fs = c at HVT HCO ⊢
  generalize msQ n sq tm nx ls ss fs = q at HVT ⊢
  generalize msZ n sq tm nx ls ss fs = z at HVT ⊢
  generalize msR n sq tm nx ls ss fs = r at HVT ⊢
  generalize msL n sq tm nx ls ss fs = l at HVT ⊢
  unfold tabV stV at HVT
  unfold tabV stV
  go_enter Tryz.func9, Tryz.ntmps9
  go_upto_region 1 with fail
  generalize (w.alloc (.cells #[.int .i64 tm, .int .i64 nx, .slice la ls.length lc, .slice sa ss.length sc] 36)).alloc (.cells #[.int .i64 0, .int .i64 0, .string ⟨#[]⟩, .slice none 0 0] 30) = wb at HX0 HY0 ⊢
  obtain ⟨y, HY⟩ : ∃ y, Hid (w.heap.size + 1 = y) := ⟨_, rfl⟩
  rw [HY.out] at HY0 HYL0 ⊢
  have HYL : Hid (w.heap.size ≤ y) := HYL0
  clear HYL0
  have G0 : Hid (Below w.heap.size w wb) := (HY0.out _ (Below.refl _ _)).2
  obtain ⟨c0, c1, c2, c3⟩ := HX0.out _ (Below.refl _ _)
  go_wp2_with fail
  refine (HVT.out _ G0.out).mono ?_
  rintro e w1 ⟨v1, er, rfl, h1, o1, b1⟩
  have HE : Hid ((c = 0 ∧ er = .nilIface) ∨ ∃ s j, j < 8 ∧ er = fnd s (sen (A j)) ∧ fcode j = c) := h1
  have B1 : Hid (Below wb.heap.size wb w1 ∧ OwnV w1 w.heap.size v1 l) := ⟨b1, o1⟩
  obtain ⟨va, vc, rfl⟩ := o1.slice
  clear h1 b1 c0 c1 c2 c3 HVT HX0
  have HZ : Hid (∀ W, Below (w1.alloc (.cells #[.int .i64 q, .int .i64 z, .string r, .slice va l.length vc] 30)).heap.size (w1.alloc (.cells #[.int .i64 q, .int .i64 z, .string r, .slice va l.length vc] 30)) W → (fun W => W.cell? ⟨w1.heap.size, 0, none⟩ = some (.int .i64 q) ∧ W.cell? ⟨w1.heap.size, 1, none⟩ = some (.int .i64 z) ∧ W.cell? ⟨w1.heap.size, 2, none⟩ = some (.string r) ∧ W.cell? ⟨w1.heap.size, 3, none⟩ = some (.slice va l.length vc)) W ∧ Below wb.heap.size wb W ∧ OwnV W w.heap.size (.slice va l.length vc) l) := fun W hW => by
    have h0 := (hW.block w1.heap.size (by simp)).trans (heap_alloc_new w1 _)
    have b := (bel_new w1 (.cells #[.int .i64 q, .int .i64 z, .string r, .slice va l.length vc] 30)).trans (hW.mono (by simp))
    exact ⟨⟨(blk_cell h0 0 rfl).1, (blk_cell h0 1 rfl).1, (blk_cell h0 2 rfl).1, (blk_cell h0 3 rfl).1⟩, B1.out.1.trans (b.mono B1.out.1.size), B1.out.2.below b⟩
  go_upto_region 2 with fail
  generalize hzz : w1.alloc (.cells #[.int .i64 q, .int .i64 z, .string r, .slice va l.length vc] 30) = wz at HZ ⊢
  clear hzz
  have HZY : Hid (w1.heap.size ≠ y) := by show _ ≠ _; have h1 := (HY0.out wb (Below.refl _ _)).1; have h2 := (Array.getElem?_eq_some_iff.1 h1).1; have := B1.out.1.size; omega
  generalize w1.heap.size = zb at HZ HZY ⊢
  obtain ⟨S0, Bz, _⟩ := HZ.out _ (Below.refl _ _)
  have HCO1 := HCO.out wz.drew er ((HY0.out _ Bz).2.drew) HE.out
  clear HCO HE
  have HC2 : Hid (Calls Tryz.prog 36 #[er] wz.drew fun e w' => e = .returned (.int .i64 c) ∧ Below wz.heap.size wz w') := HCO1.mono fun e w' ⟨h1, h2⟩ => ⟨h1, ((Below.refl wz.heap.size wz).drew).trans h2⟩
  clear HCO1
  refine wp_region_noPanic ?_
  refine wp_region_held_drew (S := (fun W => W.cell? ⟨zb, 0, none⟩ = some (.int .i64 q) ∧ W.cell? ⟨zb, 1, none⟩ = some (.int .i64 z) ∧ W.cell? ⟨zb, 2, none⟩ = some (.string r) ∧ W.cell? ⟨zb, 3, none⟩ = some (.slice va l.length vc))) (by kernel_rfl) S0 (fun hHeld => ?_)
  refine wpAnyH_take (i := 0) (oi := { dst := some 20, op := Go.Op.load 30 (Go.Operand.tmp 10), type := 30, pos := "l10_checkpoint.go:164", after := #[], guard := none }) (v := ?v1) rfl (by kernel_rfl) (by kernel_rfl) (by kernel_rfl) (fun _ _ _ h => h) (Or.inl ⟨by rfl, ?h1⟩) hHeld ?r1
  case h1 => intro wz hz; (try dsimp only at hz); go_simp; try (with_reducible rfl)
  simp only [Act.put, List.setIfInBounds_toArray, List.set_cons_zero, List.set_cons_succ]
  refine wpAnyH_take (i := 1) (oi := { dst := some 21, op := Go.Op.move (Go.Operand.tmp 11), type := 68, pos := "l10_checkpoint.go:164", after := #[], guard := none }) (v := ?v2) rfl (by kernel_rfl) (by kernel_rfl) (by kernel_rfl) (fun _ _ _ h => h) (Or.inl ⟨by rfl, ?h2⟩) hHeld ?r2
  case h2 => intro wz hz; (try dsimp only at hz); go_simp; try (with_reducible rfl)
  simp only [Act.put, List.setIfInBounds_toArray, List.set_cons_zero, List.set_cons_succ]
  refine wpAnyH_ready (rs := [2]) (by kernel_rfl) (by simp) ?_
  refine AllReadyH.cons (o := { dst := some 22, op := Go.Op.call { callee := Go.Callee.value (Go.Operand.func 36), args := #[Go.Operand.tmp 21], argTypes := #[68] }, type := 3, pos := "l10_checkpoint.go:164", after := #[{ on := 1, ground := Go.Ground.data }], guard := none }) rfl (fun K hK => ?_) AllReadyH.nil
  go_simp
  go_at_call 36
  refine HC2.out.mono ?_
  rintro e w3 ⟨rfl, b3⟩
  obtain ⟨S3, B3, o3⟩ := HZ.out _ b3
  try go_simp
  refine hK.out _ _ ?_ (fun hHeld => ?_)
  · exact S3
  clear hK K
  (try simp only [Act.put, List.setIfInBounds_toArray, List.set_cons_zero, List.set_cons_succ])
  obtain ⟨k9, g9⟩ := HY0.out _ (B3)
  obtain ⟨m0, n0⟩ := blk_cell k9 0 (x := .int .i64 0) rfl
  obtain ⟨m1, n1⟩ := blk_cell k9 1 (x := .int .i64 0) rfl
  obtain ⟨m2, n2⟩ := blk_cell k9 2 (x := .string ⟨#[]⟩) rfl
  obtain ⟨m3, n3⟩ := blk_cell k9 3 (x := .slice none 0 0) rfl
  have AF : ((((w3.setCell ⟨y, 0, none⟩ (.int .i64 q)).setCell ⟨y, 1, none⟩ (.int .i64 z)).setCell ⟨y, 2, none⟩ (.string r)).setCell ⟨y, 3, none⟩ (.slice va l.length vc)).heap[y]? = some (.cells #[.int .i64 q, .int .i64 z, .string r, .slice va l.length vc] 30 (0, 0)) := (blk_set (blk_set (blk_set (blk_set k9 0 (.int .i64 q)) 1 (.int .i64 z)) 2 (.string r)) 3 (.slice va l.length vc))
  have RF : Hid (Below w.heap.size w ((((w3.setCell ⟨y, 0, none⟩ (.int .i64 q)).setCell ⟨y, 1, none⟩ (.int .i64 z)).setCell ⟨y, 2, none⟩ (.string r)).setCell ⟨y, 3, none⟩ (.slice va l.length vc)) ∧ OwnV ((((w3.setCell ⟨y, 0, none⟩ (.int .i64 q)).setCell ⟨y, 1, none⟩ (.int .i64 z)).setCell ⟨y, 2, none⟩ (.string r)).setCell ⟨y, 3, none⟩ (.slice va l.length vc)) w.heap.size (.slice va l.length vc) l) := ⟨(Below.setCell (Below.setCell (Below.setCell (Below.setCell g9 (p := ⟨y, 0, none⟩) (HYL.out) (.int .i64 q)) (p := ⟨y, 1, none⟩) (HYL.out) (.int .i64 z)) (p := ⟨y, 2, none⟩) (HYL.out) (.string r)) (p := ⟨y, 3, none⟩) (HYL.out) (.slice va l.length vc)), o3.kept (fun g hg => ((blk_far (own_ne o3 k9 g hg) 3 (.slice va l.length vc)).trans ((blk_far (own_ne o3 k9 g hg) 2 (.string r)).trans ((blk_far (own_ne o3 k9 g hg) 1 (.int .i64 z)).trans ((blk_far (own_ne o3 k9 g hg) 0 (.int .i64 q)).trans (Eq.refl w3.heap[g]?))))))⟩
  clear g9 k9
  have S9 : Hid ((fun W => W.cell? ⟨zb, 0, none⟩ = some (.int .i64 q) ∧ W.cell? ⟨zb, 1, none⟩ = some (.int .i64 z) ∧ W.cell? ⟨zb, 2, none⟩ = some (.string r) ∧ W.cell? ⟨zb, 3, none⟩ = some (.slice va l.length vc)) ((((w3.setCell ⟨y, 0, none⟩ (.int .i64 q)).setCell ⟨y, 1, none⟩ (.int .i64 z)).setCell ⟨y, 2, none⟩ (.string r)).setCell ⟨y, 3, none⟩ (.slice va l.length vc))) := ⟨((World.cell?_of_block (a := ⟨zb, 0, none⟩) (blk_far HZY.out 3 (.slice va l.length vc))).trans ((World.cell?_of_block (a := ⟨zb, 0, none⟩) (blk_far HZY.out 2 (.string r))).trans ((World.cell?_of_block (a := ⟨zb, 0, none⟩) (blk_far HZY.out 1 (.int .i64 z))).trans ((World.cell?_of_block (a := ⟨zb, 0, none⟩) (blk_far HZY.out 0 (.int .i64 q))).trans S3.1)))), ((World.cell?_of_block (a := ⟨zb, 1, none⟩) (blk_far HZY.out 3 (.slice va l.length vc))).trans ((World.cell?_of_block (a := ⟨zb, 1, none⟩) (blk_far HZY.out 2 (.string r))).trans ((World.cell?_of_block (a := ⟨zb, 1, none⟩) (blk_far HZY.out 1 (.int .i64 z))).trans ((World.cell?_of_block (a := ⟨zb, 1, none⟩) (blk_far HZY.out 0 (.int .i64 q))).trans S3.2.1)))), ((World.cell?_of_block (a := ⟨zb, 2, none⟩) (blk_far HZY.out 3 (.slice va l.length vc))).trans ((World.cell?_of_block (a := ⟨zb, 2, none⟩) (blk_far HZY.out 2 (.string r))).trans ((World.cell?_of_block (a := ⟨zb, 2, none⟩) (blk_far HZY.out 1 (.int .i64 z))).trans ((World.cell?_of_block (a := ⟨zb, 2, none⟩) (blk_far HZY.out 0 (.int .i64 q))).trans S3.2.2.1)))), ((World.cell?_of_block (a := ⟨zb, 3, none⟩) (blk_far HZY.out 3 (.slice va l.length vc))).trans ((World.cell?_of_block (a := ⟨zb, 3, none⟩) (blk_far HZY.out 2 (.string r))).trans ((World.cell?_of_block (a := ⟨zb, 3, none⟩) (blk_far HZY.out 1 (.int .i64 z))).trans ((World.cell?_of_block (a := ⟨zb, 3, none⟩) (blk_far HZY.out 0 (.int .i64 q))).trans S3.2.2.2))))⟩
  refine wpAnyH_ready (rs := [3]) (by kernel_rfl) (by simp) ?_
  refine AllReadyH.cons (o := { dst := none, op := Go.Op.store 30 (Go.Operand.tmp 8) (Go.Operand.tmp 20), type := 0, pos := "l10_checkpoint.go:164", after := #[{ on := 0, ground := Go.Ground.data }, { on := 2, ground := Go.Ground.chain }, { on := 0, ground := Go.Ground.phase }, { on := 1, ground := Go.Ground.textOnly Go.Departure.lateStores }, { on := 2, ground := Go.Ground.textOnly Go.Departure.lateStoresUnsure }], guard := none }) rfl (fun K hK => ?_) AllReadyH.nil
  go_simp
  refine hK.out _ _ ?_ (fun hHeld => ?_)
  · exact S9.out
  clear hK K
  (try simp only [Act.put, List.setIfInBounds_toArray, List.set_cons_zero, List.set_cons_succ])
  refine wpAnyH_take (i := 4) (oi := { dst := some 9, op := Go.Op.assign (Go.Operand.tmp 22), type := 3, pos := "l10_checkpoint.go:164", after := #[{ on := 2, ground := Go.Ground.data }, { on := 3, ground := Go.Ground.chain }, { on := 0, ground := Go.Ground.phase }, { on := 1, ground := Go.Ground.phase }, { on := 2, ground := Go.Ground.phase }, { on := 3, ground := Go.Ground.phase }], guard := none }) (v := ?v3) rfl (by kernel_rfl) (by kernel_rfl) (by kernel_rfl) (fun _ _ _ h => h) (Or.inl ⟨by rfl, ?h3⟩) hHeld ?r3
  case h3 => intro wz hz; (try dsimp only at hz); go_simp; try (with_reducible rfl)
  simp only [Act.put, List.setIfInBounds_toArray, List.set_cons_zero, List.set_cons_succ]
  refine wpAnyH_done (by kernel_rfl) ?_ _
  refine NoPanic.normal ?_
  clear S9 S3 S0 hHeld
  go_wp2_with fail
  generalize ((((w3.setCell ⟨y, 0, none⟩ (.int .i64 q)).setCell ⟨y, 1, none⟩ (.int .i64 z)).setCell ⟨y, 2, none⟩ (.string r)).setCell ⟨y, 3, none⟩ (.slice va l.length vc)) = wf at AF RF ⊢
  have d0 := (blk_cell AF 0 (x := .int .i64 q) rfl).1
  have d1 := (blk_cell AF 1 (x := .int .i64 z) rfl).1
  have d2 := (blk_cell AF 2 (x := .string r) rfl).1
  have d3 := (blk_cell AF 3 (x := .slice va l.length vc) rfl).1
  exact bodyPost_ret (v := .tuple #[.agg #[.int .i64 q, .int .i64 z, .string r, .slice va l.length vc], .int .i64 c]) (by simp [results, Tryz.results9, go_sem, d0, d1, d2, d3]) rfl ⟨_, rfl, RF.out.2, RF.out.1⟩
/-- The first k nodes are as the specification asks. -/
def SGf (n : Int) (fs : List Int) (k : Nat) : Prop := ∀ (j : Nat) (x : Int), j < k → fs[j]? = some x → isV n x = true ∧ (∀ (i : Nat) (y : Int), j = i + 1 → fs[i]? = some y → y < x)
theorem SGf.succ {n : Int} {fs : List Int} {k : Nat} {x : Int} (h : SGf n fs k) (hx : fs[k]? = some x) (h1 : isV n x = true ∧ (∀ (i : Nat) (y : Int), k = i + 1 → fs[i]? = some y → y < x)) : SGf n fs (k + 1) := fun j y hj hy => by
  by_cases e : j = k
  · subst e; rw [hx] at hy; cases hy; exact h1
  · exact h j y (by omega) hy
theorem q_yes {n : Int} {fs : List Int} (h0 : fCode n = 0) (h1 : (fs.length : Int) = qOut n) (h : SGf n fs fs.length) : qvB n fs = true := by
  refine qv_iff.2 ⟨h0, h1, fun x hx => ?_, fun j x y hj hx hy => (h (j + 1) y (lt_at hy) hy).2 j x rfl hx⟩
  obtain ⟨k, hk, e⟩ := List.getElem_of_mem hx
  exact (h k x hk (by rw [List.getElem?_eq_getElem hk, e])).1
theorem inR_isV {n x : Int} (h : fCode n = 0) : inR x 0 (n - 1) = isV n x := by
  unfold inR isV okN inB
  rw [decide_eq_true h, Bool.true_and, Bool.eq_iff_iff]
  simp
set_option maxRecDepth 100000 in
set_option maxHeartbeats 1600000 in
theorem specMakeStable_any (n sq tm nx : Int) (vl vs : Value) (ls : List Lk) (ss : List Sn) (u : Value) (fs : List Int) (w : World) (hL : RowL w vl ls) (hS : RowS w vs ss) (hw : ∀ x ∈ ls, x.n.size ≤ 1048576 ∧ x.ws.length ≤ 1048576) (hy1 : ls.length ≤ 1048576) (hy2 : ss.length ≤ 1048576) (h : RowJ w u fs) (hfl : fs.length ≤ 1048576) :
    Calls Tryz.prog 6 #[.int .i64 n, .int .i64 sq, tabV tm nx vl vs, u] w fun e w' => ∃ v, e = .returned (.tuple #[stV (msQ n sq tm nx ls ss fs) (msZ n sq tm nx ls ss fs) (msR n sq tm nx ls ss fs) v, .int .i64 (msC n sq tm nx ls ss fs)]) ∧ OwnV w' w.heap.size v (msL n sq tm nx ls ss fs) ∧ Below w.heap.size w w' := by
  have HTO : Hid (∀ W, Below w.heap.size w W → Calls Tryz.prog 30 #[tabV tm nx vl vs] W fun e w' => e = .returned (.bool (bOf (TOK ⟨tm, nx, ls, ss⟩))) ∧ Below W.heap.size W w') := fun W hW => Tq.specTableOK_any tm nx vl vs ls ss W (hL.below hW) (hS.below hW) hw hy1 hy2
  have HMK : Hid (∀ W, Below w.heap.size w W → TOK ⟨tm, nx, ls, ss⟩ → qvB n fs = true → fs.length ≤ 4096 → Calls Tryz.prog 32 #[.int .i64 sq, tabV tm nx vl vs, u] W fun e w' => ∃ v, e = .returned (stV sq (tN tm nx ls ss) (tR tm nx ls ss) v) ∧ OwnV w' w.heap.size v (vtTo sq (tN tm nx ls ss) (tR tm nx ls ss) fs fs.length) ∧ Below W.heap.size W w') := fun W hW ht hq hl => (l10Make_any tm nx vl vs ls ss sq u fs W (hL.below hW) (hS.below hW) ht (h.below hW) hl (q_nodes hq)).mono fun e w' ⟨v, h1, h2, h3⟩ => ⟨v, h1, h2.mono hW.size, h3⟩
  have HRJ : Hid (RowJ w u fs) := h
  obtain ⟨a, cap, rfl, _⟩ := h
  obtain ⟨la, lc, rfl⟩ := Tb.RowG.slice hL
  obtain ⟨sa, sc, rfl⟩ := Tb.RowG.slice hS
  have e2 : ((w.alloc (.cells #[.int .i64 tm, .int .i64 nx, .slice la ls.length lc, .slice sa ss.length sc] 36)).alloc (.cells #[.int .i64 0, .int .i64 0, .string ⟨#[]⟩, .slice none 0 0] 30)).heap.size = w.heap.size + 1 + 1 := by rw [size_new, size_new]
  have HX0 : Hid (∀ W, Below ((w.alloc (.cells #[.int .i64 tm, .int .i64 nx, .slice la ls.length lc, .slice sa ss.length sc] 36)).alloc (.cells #[.int .i64 0, .int .i64 0, .string ⟨#[]⟩, .slice none 0 0] 30)).heap.size ((w.alloc (.cells #[.int .i64 tm, .int .i64 nx, .slice la ls.length lc, .slice sa ss.length sc] 36)).alloc (.cells #[.int .i64 0, .int .i64 0, .string ⟨#[]⟩, .slice none 0 0] 30)) W → (W.cell? ⟨w.heap.size, 0, none⟩ = some (.int .i64 tm) ∧ W.cell? ⟨w.heap.size, 1, none⟩ = some (.int .i64 nx) ∧ W.cell? ⟨w.heap.size, 2, none⟩ = some (.slice la ls.length lc) ∧ W.cell? ⟨w.heap.size, 3, none⟩ = some (.slice sa ss.length sc))) := fun W hW => by
    have h0 : W.heap[w.heap.size]? = some (.cells #[.int .i64 tm, .int .i64 nx, .slice la ls.length lc, .slice sa ss.length sc] 36) := by rw [hW.block _ (by omega), Below.heap_alloc _ _ _ (by rw [size_new]; omega)]; exact heap_alloc_new w _
    exact ⟨(blk_cell h0 0 rfl).1, (blk_cell h0 1 rfl).1, (blk_cell h0 2 rfl).1, (blk_cell h0 3 rfl).1⟩
  have HY0 : Hid (∀ W, Below ((w.alloc (.cells #[.int .i64 tm, .int .i64 nx, .slice la ls.length lc, .slice sa ss.length sc] 36)).alloc (.cells #[.int .i64 0, .int .i64 0, .string ⟨#[]⟩, .slice none 0 0] 30)).heap.size ((w.alloc (.cells #[.int .i64 tm, .int .i64 nx, .slice la ls.length lc, .slice sa ss.length sc] 36)).alloc (.cells #[.int .i64 0, .int .i64 0, .string ⟨#[]⟩, .slice none 0 0] 30)) W → W.heap[w.heap.size + 1]? = some (.cells #[.int .i64 0, .int .i64 0, .string ⟨#[]⟩, .slice none 0 0] 30) ∧ Below w.heap.size w W) := fun W hW => by
    have h1 : W.heap[w.heap.size + 1]? = some (.cells #[.int .i64 0, .int .i64 0, .string ⟨#[]⟩, .slice none 0 0] 30) := by rw [hW.block _ (by omega)]; have := heap_alloc_new (w.alloc (.cells #[.int .i64 tm, .int .i64 nx, .slice la ls.length lc, .slice sa ss.length sc] 36)) (.cells #[.int .i64 0, .int .i64 0, .string ⟨#[]⟩, .slice none 0 0] 30); rwa [size_new] at this
    exact ⟨h1, (((Below.refl w.heap.size w).alloc (Nat.le_refl _) _).alloc (by rw [size_new]; omega) _).trans (hW.mono (by omega))⟩
  have HYL0 : Hid (w.heap.size ≤ w.heap.size + 1) := Nat.le_succ _
  have hMS : msC n sq tm nx ls ss fs = if 4096 < fs.length then 2 else if fCode n = 0 ∧ inR sq 0 65535 = true then (if bOf (TOK ⟨tm, nx, ls, ss⟩) = true then (if qvB n fs = true then 0 else 19) else 1) else 4 := rfl
  clear hL hS hw hy1 hy2 e2
  unfold tabV at HTO HMK ⊢
  go_enter Tryz.func6, Tryz.ntmps6
  go_upto_region 1 with fail
  generalize (w.alloc (.cells #[.int .i64 tm, .int .i64 nx, .slice la ls.length lc, .slice sa ss.length sc] 36)).alloc (.cells #[.int .i64 0, .int .i64 0, .string ⟨#[]⟩, .slice none 0 0] 30) = wb at HX0 HY0 ⊢
  obtain ⟨y, HY⟩ : ∃ y, Hid (w.heap.size + 1 = y) := ⟨_, rfl⟩
  rw [HY.out] at HY0 HYL0 ⊢
  have HYL : Hid (w.heap.size ≤ y) := HYL0
  clear HYL0
  have G0 : Hid (Below w.heap.size w wb) := (HY0.out _ (Below.refl _ _)).2
  by_cases h1 : 4096 < fs.length
  · have h1' : (4096 : Int) < (fs.length : Int) := by omega
    rw [if_pos h1] at hMS
    have HM : Hid (Ms n sq tm nx ls ss fs 2 0 0 ⟨#[]⟩ []) := ms_no hMS (by decide)
    clear hMS h1 HTO HMK HRJ
    obtain ⟨k9, g9⟩ := HY0.out _ (Below.refl _ _)
    obtain ⟨m0, n0⟩ := blk_cell k9 0 (x := .int .i64 0) rfl
    obtain ⟨m1, n1⟩ := blk_cell k9 1 (x := .int .i64 0) rfl
    obtain ⟨m2, n2⟩ := blk_cell k9 2 (x := .string ⟨#[]⟩) rfl
    obtain ⟨m3, n3⟩ := blk_cell k9 3 (x := .slice none 0 0) rfl
    have AF : ((((wb.setCell ⟨y, 0, none⟩ (.int .i64 0)).setCell ⟨y, 1, none⟩ (.int .i64 0)).setCell ⟨y, 2, none⟩ (.string ⟨#[]⟩)).setCell ⟨y, 3, none⟩ (.slice none 0 0)).heap[y]? = some (.cells #[.int .i64 0, .int .i64 0, .string ⟨#[]⟩, .slice none 0 0] 30 (0, 0)) := (blk_set (blk_set (blk_set (blk_set k9 0 (.int .i64 0)) 1 (.int .i64 0)) 2 (.string ⟨#[]⟩)) 3 (.slice none 0 0))
    have RF : Hid (Below w.heap.size w ((((wb.setCell ⟨y, 0, none⟩ (.int .i64 0)).setCell ⟨y, 1, none⟩ (.int .i64 0)).setCell ⟨y, 2, none⟩ (.string ⟨#[]⟩)).setCell ⟨y, 3, none⟩ (.slice none 0 0)) ∧ OwnV ((((wb.setCell ⟨y, 0, none⟩ (.int .i64 0)).setCell ⟨y, 1, none⟩ (.int .i64 0)).setCell ⟨y, 2, none⟩ (.string ⟨#[]⟩)).setCell ⟨y, 3, none⟩ (.slice none 0 0)) w.heap.size (.slice none 0 0) []) := ⟨(Below.setCell (Below.setCell (Below.setCell (Below.setCell g9 (p := ⟨y, 0, none⟩) (HYL.out) (.int .i64 0)) (p := ⟨y, 1, none⟩) (HYL.out) (.int .i64 0)) (p := ⟨y, 2, none⟩) (HYL.out) (.string ⟨#[]⟩)) (p := ⟨y, 3, none⟩) (HYL.out) (.slice none 0 0)), OwnV.nil _ _⟩
    clear g9 k9
    go_wp2_with fail
    generalize ((((wb.setCell ⟨y, 0, none⟩ (.int .i64 0)).setCell ⟨y, 1, none⟩ (.int .i64 0)).setCell ⟨y, 2, none⟩ (.string ⟨#[]⟩)).setCell ⟨y, 3, none⟩ (.slice none 0 0)) = wf at AF RF ⊢
    have d0 := (blk_cell AF 0 (x := .int .i64 0) rfl).1
    have d1 := (blk_cell AF 1 (x := .int .i64 0) rfl).1
    have d2 := (blk_cell AF 2 (x := .string ⟨#[]⟩) rfl).1
    have d3 := (blk_cell AF 3 (x := .slice none 0 0) rfl).1
    refine bodyPost_ret (v := .tuple #[.agg #[.int .i64 0, .int .i64 0, .string ⟨#[]⟩, .slice none 0 0], .int .i64 (2)]) (by simp [results, Tryz.results6, go_sem, d0, d1, d2, d3]) rfl ?_
    rw [HM.out.c, HM.out.q, HM.out.z, HM.out.r, HM.out.l]
    exact ⟨_, rfl, RF.out.2, RF.out.1⟩
  have h1' : ¬ (4096 : Int) < (fs.length : Int) := by omega
  rw [if_neg h1] at hMS
  have HNO := Qm.l04Nodes_any n wb
  have HIQ := Rm.l01In_any sq 0 65535 wb
  by_cases hn : fCode n = 0
  case neg =>
    rw [if_neg (fun hh => hn hh.1)] at hMS
    have HM : Hid (Ms n sq tm nx ls ss fs 4 0 0 ⟨#[]⟩ []) := ms_no hMS (by decide)
    rw [decide_eq_false hn] at HNO
    clear hMS hn HTO HMK HRJ
    obtain ⟨k9, g9⟩ := HY0.out _ (Below.refl _ _)
    obtain ⟨m0, n0⟩ := blk_cell k9 0 (x := .int .i64 0) rfl
    obtain ⟨m1, n1⟩ := blk_cell k9 1 (x := .int .i64 0) rfl
    obtain ⟨m2, n2⟩ := blk_cell k9 2 (x := .string ⟨#[]⟩) rfl
    obtain ⟨m3, n3⟩ := blk_cell k9 3 (x := .slice none 0 0) rfl
    have AF : ((((wb.setCell ⟨y, 0, none⟩ (.int .i64 0)).setCell ⟨y, 1, none⟩ (.int .i64 0)).setCell ⟨y, 2, none⟩ (.string ⟨#[]⟩)).setCell ⟨y, 3, none⟩ (.slice none 0 0)).heap[y]? = some (.cells #[.int .i64 0, .int .i64 0, .string ⟨#[]⟩, .slice none 0 0] 30 (0, 0)) := (blk_set (blk_set (blk_set (blk_set k9 0 (.int .i64 0)) 1 (.int .i64 0)) 2 (.string ⟨#[]⟩)) 3 (.slice none 0 0))
    have RF : Hid (Below w.heap.size w ((((wb.setCell ⟨y, 0, none⟩ (.int .i64 0)).setCell ⟨y, 1, none⟩ (.int .i64 0)).setCell ⟨y, 2, none⟩ (.string ⟨#[]⟩)).setCell ⟨y, 3, none⟩ (.slice none 0 0)) ∧ OwnV ((((wb.setCell ⟨y, 0, none⟩ (.int .i64 0)).setCell ⟨y, 1, none⟩ (.int .i64 0)).setCell ⟨y, 2, none⟩ (.string ⟨#[]⟩)).setCell ⟨y, 3, none⟩ (.slice none 0 0)) w.heap.size (.slice none 0 0) []) := ⟨(Below.setCell (Below.setCell (Below.setCell (Below.setCell g9 (p := ⟨y, 0, none⟩) (HYL.out) (.int .i64 0)) (p := ⟨y, 1, none⟩) (HYL.out) (.int .i64 0)) (p := ⟨y, 2, none⟩) (HYL.out) (.string ⟨#[]⟩)) (p := ⟨y, 3, none⟩) (HYL.out) (.slice none 0 0)), OwnV.nil _ _⟩
    clear g9 k9
    go_wp2_with (first | (go_at_call 28; refine HNO.mono ?_; rintro e w2 ⟨rfl, rfl⟩) | fail)
    generalize ((((wb.setCell ⟨y, 0, none⟩ (.int .i64 0)).setCell ⟨y, 1, none⟩ (.int .i64 0)).setCell ⟨y, 2, none⟩ (.string ⟨#[]⟩)).setCell ⟨y, 3, none⟩ (.slice none 0 0)) = wf at AF RF ⊢
    have d0 := (blk_cell AF 0 (x := .int .i64 0) rfl).1
    have d1 := (blk_cell AF 1 (x := .int .i64 0) rfl).1
    have d2 := (blk_cell AF 2 (x := .string ⟨#[]⟩) rfl).1
    have d3 := (blk_cell AF 3 (x := .slice none 0 0) rfl).1
    refine bodyPost_ret (v := .tuple #[.agg #[.int .i64 0, .int .i64 0, .string ⟨#[]⟩, .slice none 0 0], .int .i64 (4)]) (by simp [results, Tryz.results6, go_sem, d0, d1, d2, d3]) rfl ?_
    rw [HM.out.c, HM.out.q, HM.out.z, HM.out.r, HM.out.l]
    exact ⟨_, rfl, RF.out.2, RF.out.1⟩
  case pos =>
  rw [decide_eq_true hn] at HNO
  cases hsq : inR sq 0 65535
  case false =>
    rw [if_neg (fun hh => by rw [hsq] at hh; cases hh.2)] at hMS
    have HM : Hid (Ms n sq tm nx ls ss fs 4 0 0 ⟨#[]⟩ []) := ms_no hMS (by decide)
    rw [hsq] at HIQ
    clear hMS hn hsq HTO HMK HRJ
    obtain ⟨k9, g9⟩ := HY0.out _ (Below.refl _ _)
    obtain ⟨m0, n0⟩ := blk_cell k9 0 (x := .int .i64 0) rfl
    obtain ⟨m1, n1⟩ := blk_cell k9 1 (x := .int .i64 0) rfl
    obtain ⟨m2, n2⟩ := blk_cell k9 2 (x := .string ⟨#[]⟩) rfl
    obtain ⟨m3, n3⟩ := blk_cell k9 3 (x := .slice none 0 0) rfl
    have AF : ((((wb.setCell ⟨y, 0, none⟩ (.int .i64 0)).setCell ⟨y, 1, none⟩ (.int .i64 0)).setCell ⟨y, 2, none⟩ (.string ⟨#[]⟩)).setCell ⟨y, 3, none⟩ (.slice none 0 0)).heap[y]? = some (.cells #[.int .i64 0, .int .i64 0, .string ⟨#[]⟩, .slice none 0 0] 30 (0, 0)) := (blk_set (blk_set (blk_set (blk_set k9 0 (.int .i64 0)) 1 (.int .i64 0)) 2 (.string ⟨#[]⟩)) 3 (.slice none 0 0))
    have RF : Hid (Below w.heap.size w ((((wb.setCell ⟨y, 0, none⟩ (.int .i64 0)).setCell ⟨y, 1, none⟩ (.int .i64 0)).setCell ⟨y, 2, none⟩ (.string ⟨#[]⟩)).setCell ⟨y, 3, none⟩ (.slice none 0 0)) ∧ OwnV ((((wb.setCell ⟨y, 0, none⟩ (.int .i64 0)).setCell ⟨y, 1, none⟩ (.int .i64 0)).setCell ⟨y, 2, none⟩ (.string ⟨#[]⟩)).setCell ⟨y, 3, none⟩ (.slice none 0 0)) w.heap.size (.slice none 0 0) []) := ⟨(Below.setCell (Below.setCell (Below.setCell (Below.setCell g9 (p := ⟨y, 0, none⟩) (HYL.out) (.int .i64 0)) (p := ⟨y, 1, none⟩) (HYL.out) (.int .i64 0)) (p := ⟨y, 2, none⟩) (HYL.out) (.string ⟨#[]⟩)) (p := ⟨y, 3, none⟩) (HYL.out) (.slice none 0 0)), OwnV.nil _ _⟩
    clear g9 k9
    go_wp2_with (first | (go_at_call 28; refine HNO.mono ?_; rintro e w2 ⟨rfl, rfl⟩) | (go_at_call 29; refine HIQ.mono ?_; rintro e w2 ⟨rfl, rfl⟩) | fail)
    generalize ((((wb.setCell ⟨y, 0, none⟩ (.int .i64 0)).setCell ⟨y, 1, none⟩ (.int .i64 0)).setCell ⟨y, 2, none⟩ (.string ⟨#[]⟩)).setCell ⟨y, 3, none⟩ (.slice none 0 0)) = wf at AF RF ⊢
    have d0 := (blk_cell AF 0 (x := .int .i64 0) rfl).1
    have d1 := (blk_cell AF 1 (x := .int .i64 0) rfl).1
    have d2 := (blk_cell AF 2 (x := .string ⟨#[]⟩) rfl).1
    have d3 := (blk_cell AF 3 (x := .slice none 0 0) rfl).1
    refine bodyPost_ret (v := .tuple #[.agg #[.int .i64 0, .int .i64 0, .string ⟨#[]⟩, .slice none 0 0], .int .i64 (4)]) (by simp [results, Tryz.results6, go_sem, d0, d1, d2, d3]) rfl ?_
    rw [HM.out.c, HM.out.q, HM.out.z, HM.out.r, HM.out.l]
    exact ⟨_, rfl, RF.out.2, RF.out.1⟩
  case true =>
  rw [if_pos ⟨hn, hsq⟩] at hMS
  rw [hsq] at HIQ
  have HN0 : Hid (fCode n = 0) := hn
  have hn7 := f_small hn
  clear hsq hn
  obtain ⟨c0, c1, c2, c3⟩ := HX0.out _ (Below.refl _ _)
  go_wp2_with (first | (go_at_call 28; refine HNO.mono ?_; rintro e w2 ⟨rfl, rfl⟩) | (go_at_call 29; refine HIQ.mono ?_; rintro e w2 ⟨rfl, rfl⟩) | fail)
  refine (HTO.out _ G0.out).mono ?_
  rintro e w1 ⟨rfl, b1⟩
  have B1 : Hid (Below wb.heap.size wb w1) := b1
  clear b1 c0 c1 c2 c3 HNO HIQ HTO
  by_cases ht : TOK ⟨tm, nx, ls, ss⟩
  case neg =>
    rw [bOf_false ht] at hMS ⊢
    have hMS1 : msC n sq tm nx ls ss fs = 1 := hMS
    have HM : Hid (Ms n sq tm nx ls ss fs 1 0 0 ⟨#[]⟩ []) := ms_no hMS1 (by decide)
    clear hMS hMS1 ht HMK HRJ
    obtain ⟨k9, g9⟩ := HY0.out _ (B1.out)
    obtain ⟨m0, n0⟩ := blk_cell k9 0 (x := .int .i64 0) rfl
    obtain ⟨m1, n1⟩ := blk_cell k9 1 (x := .int .i64 0) rfl
    obtain ⟨m2, n2⟩ := blk_cell k9 2 (x := .string ⟨#[]⟩) rfl
    obtain ⟨m3, n3⟩ := blk_cell k9 3 (x := .slice none 0 0) rfl
    have AF : ((((w1.setCell ⟨y, 0, none⟩ (.int .i64 0)).setCell ⟨y, 1, none⟩ (.int .i64 0)).setCell ⟨y, 2, none⟩ (.string ⟨#[]⟩)).setCell ⟨y, 3, none⟩ (.slice none 0 0)).heap[y]? = some (.cells #[.int .i64 0, .int .i64 0, .string ⟨#[]⟩, .slice none 0 0] 30 (0, 0)) := (blk_set (blk_set (blk_set (blk_set k9 0 (.int .i64 0)) 1 (.int .i64 0)) 2 (.string ⟨#[]⟩)) 3 (.slice none 0 0))
    have RF : Hid (Below w.heap.size w ((((w1.setCell ⟨y, 0, none⟩ (.int .i64 0)).setCell ⟨y, 1, none⟩ (.int .i64 0)).setCell ⟨y, 2, none⟩ (.string ⟨#[]⟩)).setCell ⟨y, 3, none⟩ (.slice none 0 0)) ∧ OwnV ((((w1.setCell ⟨y, 0, none⟩ (.int .i64 0)).setCell ⟨y, 1, none⟩ (.int .i64 0)).setCell ⟨y, 2, none⟩ (.string ⟨#[]⟩)).setCell ⟨y, 3, none⟩ (.slice none 0 0)) w.heap.size (.slice none 0 0) []) := ⟨(Below.setCell (Below.setCell (Below.setCell (Below.setCell g9 (p := ⟨y, 0, none⟩) (HYL.out) (.int .i64 0)) (p := ⟨y, 1, none⟩) (HYL.out) (.int .i64 0)) (p := ⟨y, 2, none⟩) (HYL.out) (.string ⟨#[]⟩)) (p := ⟨y, 3, none⟩) (HYL.out) (.slice none 0 0)), OwnV.nil _ _⟩
    clear g9 k9
    go_wp2_with fail
    generalize ((((w1.setCell ⟨y, 0, none⟩ (.int .i64 0)).setCell ⟨y, 1, none⟩ (.int .i64 0)).setCell ⟨y, 2, none⟩ (.string ⟨#[]⟩)).setCell ⟨y, 3, none⟩ (.slice none 0 0)) = wf at AF RF ⊢
    have d0 := (blk_cell AF 0 (x := .int .i64 0) rfl).1
    have d1 := (blk_cell AF 1 (x := .int .i64 0) rfl).1
    have d2 := (blk_cell AF 2 (x := .string ⟨#[]⟩) rfl).1
    have d3 := (blk_cell AF 3 (x := .slice none 0 0) rfl).1
    refine bodyPost_ret (v := .tuple #[.agg #[.int .i64 0, .int .i64 0, .string ⟨#[]⟩, .slice none 0 0], .int .i64 (1)]) (by simp [results, Tryz.results6, go_sem, d0, d1, d2, d3]) rfl ?_
    rw [HM.out.c, HM.out.q, HM.out.z, HM.out.r, HM.out.l]
    exact ⟨_, rfl, RF.out.2, RF.out.1⟩
  case pos =>
  rw [bOf_true ht] at hMS ⊢
  have hMS1 : msC n sq tm nx ls ss fs = if qvB n fs = true then 0 else 19 := hMS
  have HNQ : Hid (¬ qvB n fs = true → Ms n sq tm nx ls ss fs 19 0 0 ⟨#[]⟩ []) := fun hh => ms_no (by rw [hMS1, if_neg hh]) (by decide)
  have HYQ : Hid (qvB n fs = true → Ms n sq tm nx ls ss fs 0 sq (tN tm nx ls ss) (tR tm nx ls ss) (vtTo sq (tN tm nx ls ss) (tR tm nx ls ss) fs fs.length)) := fun hh => ms_yes (by rw [hMS1, if_pos hh])
  have HQU := fun W => Qm.l06Quorum_any n W HN0.out
  have HMK1 : Hid (∀ W, Below w.heap.size w W → qvB n fs = true → Calls Tryz.prog 32 #[.int .i64 sq, .agg #[.int .i64 tm, .int .i64 nx, .slice la ls.length lc, .slice sa ss.length sc], .slice a fs.length cap] W fun e w' => ∃ v, e = .returned (stV sq (tN tm nx ls ss) (tR tm nx ls ss) v) ∧ OwnV w' w.heap.size v (vtTo sq (tN tm nx ls ss) (tR tm nx ls ss) fs fs.length) ∧ Below W.heap.size W w') := fun W hW hq => HMK.out W hW ht hq (by omega)
  have HLV : Hid ((vtTo sq (tN tm nx ls ss) (tR tm nx ls ss) fs fs.length).length = fs.length) := vtTo_len (Nat.le_refl _)
  have HQN : Hid (¬ (fs.length : Int) = qOut n → ¬ qvB n fs = true) := fun hh hq => hh (qv_iff.1 hq).2.1
  have HQY : Hid ((fs.length : Int) = qOut n → SGf n fs fs.length → qvB n fs = true) := fun h1 h2 => q_yes HN0.out h1 h2
  clear hMS hMS1 ht HMK
  generalize vtTo sq (tN tm nx ls ss) (tR tm nx ls ss) fs fs.length = ol at HYQ HMK1 HLV
  generalize tN tm nx ls ss = sz at HYQ HMK1
  generalize tR tm nx ls ss = rt at HYQ HMK1
  generalize qOut n = qn at HQU HQN HQY
  unfold stV at HMK1
  by_cases hq : (fs.length : Int) = qn
  case neg =>
    have HM : Hid (Ms n sq tm nx ls ss fs 19 0 0 ⟨#[]⟩ []) := HNQ.out (HQN.out hq)
    have hq2 : ((fs.length : Int) != qn) = true := by simpa using hq
    clear hq HQN HQY HNQ HYQ HMK1 HRJ
    obtain ⟨k9, g9⟩ := HY0.out _ (B1.out)
    obtain ⟨m0, n0⟩ := blk_cell k9 0 (x := .int .i64 0) rfl
    obtain ⟨m1, n1⟩ := blk_cell k9 1 (x := .int .i64 0) rfl
    obtain ⟨m2, n2⟩ := blk_cell k9 2 (x := .string ⟨#[]⟩) rfl
    obtain ⟨m3, n3⟩ := blk_cell k9 3 (x := .slice none 0 0) rfl
    have AF : ((((w1.setCell ⟨y, 0, none⟩ (.int .i64 0)).setCell ⟨y, 1, none⟩ (.int .i64 0)).setCell ⟨y, 2, none⟩ (.string ⟨#[]⟩)).setCell ⟨y, 3, none⟩ (.slice none 0 0)).heap[y]? = some (.cells #[.int .i64 0, .int .i64 0, .string ⟨#[]⟩, .slice none 0 0] 30 (0, 0)) := (blk_set (blk_set (blk_set (blk_set k9 0 (.int .i64 0)) 1 (.int .i64 0)) 2 (.string ⟨#[]⟩)) 3 (.slice none 0 0))
    have RF : Hid (Below w.heap.size w ((((w1.setCell ⟨y, 0, none⟩ (.int .i64 0)).setCell ⟨y, 1, none⟩ (.int .i64 0)).setCell ⟨y, 2, none⟩ (.string ⟨#[]⟩)).setCell ⟨y, 3, none⟩ (.slice none 0 0)) ∧ OwnV ((((w1.setCell ⟨y, 0, none⟩ (.int .i64 0)).setCell ⟨y, 1, none⟩ (.int .i64 0)).setCell ⟨y, 2, none⟩ (.string ⟨#[]⟩)).setCell ⟨y, 3, none⟩ (.slice none 0 0)) w.heap.size (.slice none 0 0) []) := ⟨(Below.setCell (Below.setCell (Below.setCell (Below.setCell g9 (p := ⟨y, 0, none⟩) (HYL.out) (.int .i64 0)) (p := ⟨y, 1, none⟩) (HYL.out) (.int .i64 0)) (p := ⟨y, 2, none⟩) (HYL.out) (.string ⟨#[]⟩)) (p := ⟨y, 3, none⟩) (HYL.out) (.slice none 0 0)), OwnV.nil _ _⟩
    clear g9 k9
    go_wp2_with (first | (go_at_call 31; refine (HQU _).mono ?_; rintro e w2 ⟨rfl, rfl⟩) | fail)
    generalize ((((w1.setCell ⟨y, 0, none⟩ (.int .i64 0)).setCell ⟨y, 1, none⟩ (.int .i64 0)).setCell ⟨y, 2, none⟩ (.string ⟨#[]⟩)).setCell ⟨y, 3, none⟩ (.slice none 0 0)) = wf at AF RF ⊢
    have d0 := (blk_cell AF 0 (x := .int .i64 0) rfl).1
    have d1 := (blk_cell AF 1 (x := .int .i64 0) rfl).1
    have d2 := (blk_cell AF 2 (x := .string ⟨#[]⟩) rfl).1
    have d3 := (blk_cell AF 3 (x := .slice none 0 0) rfl).1
    refine bodyPost_ret (v := .tuple #[.agg #[.int .i64 0, .int .i64 0, .string ⟨#[]⟩, .slice none 0 0], .int .i64 (19)]) (by simp [results, Tryz.results6, go_sem, d0, d1, d2, d3]) rfl ?_
    rw [HM.out.c, HM.out.q, HM.out.z, HM.out.r, HM.out.l]
    exact ⟨_, rfl, RF.out.2, RF.out.1⟩
  case pos =>
  have HQ : Hid ((fs.length : Int) = qn) := hq
  have hq2 : ((fs.length : Int) != qn) = false := by simpa using hq
  clear hq HQN
  go_wp2_with (first | (go_at_call 31; refine (HQU _).mono ?_; rintro e w2 ⟨rfl, rfl⟩) | fail)
  go_loopw [10] (fun i wr => ∃ k : Nat, k ≤ fs.length ∧ i = .int .i64 k ∧ Hid (SGf n fs k ∧ Below wb.heap.size wb wr)) (fun i _ => fs.length - (intOf i).toNat)
  case atStart => exact ⟨0, by omega, rfl, ⟨fun j x hj => by omega, B1.out⟩⟩
  case round =>
    obtain ⟨k, hk, rfl, HZ⟩ := hrel
    by_cases hlt : k < fs.length
    · obtain ⟨f, hf⟩ := Rg.get_at hlt
      have HRW : Hid (∀ W, Below wb.heap.size wb W → RowJ W (.slice a fs.length cap) fs) := fun W hW => HRJ.out.below (HY0.out _ hW).2
      obtain ⟨b, off, rfl, hbl, d0⟩ := (HRW.out _ HZ.out.2).at hf
      have HIN : Hid (∀ W, Calls Tryz.prog 29 #[.int .i64 f, .int .i64 0, .int .i64 (n - 1)] W fun e w' => e = .returned (.bool (isV n f)) ∧ W = w') := fun W => by have := Rm.l01In_any f 0 (n - 1) W; rwa [inR_isV HN0.out] at this
      have HN1 : Hid (isV n f = false → Ms n sq tm nx ls ss fs 19 0 0 ⟨#[]⟩ []) := fun hh => HNQ.out (fun hq => by have := (qv_iff.1 hq).2.2.1 f (List.mem_of_getElem? hf); rw [hh] at this; cases this)
      have HN2 : Hid (∀ (i : Nat) (y : Int), k = i + 1 → fs[i]? = some y → f ≤ y → Ms n sq tm nx ls ss fs 19 0 0 ⟨#[]⟩ []) := fun i y e hy hle => HNQ.out (fun hq => by subst e; have := (qv_iff.1 hq).2.2.2 i y f (lt_at hf) hy hf; omega)
      have HS3 : Hid (isV n f = true → (∀ (i : Nat) (y : Int), k = i + 1 → fs[i]? = some y → y < f) → SGf n fs (k + 1)) := fun h1 h2 => HZ.out.1.succ hf ⟨h1, h2⟩
      have hp0 : (0 : Int) ≤ (k : Int) := by omega
      have hp1 : (k : Int) < (fs.length : Int) := by omega
      go_upto_region 12 with fail
      obtain ⟨X, hX, W, QI0, QO0⟩ := Qc.klass wr
      have QI : Hid (∀ w', Below wr.heap.size wr w' → ∃ x, w' = W x) := QI0
      have QO : Hid (∀ x, Below wr.heap.size wr (W x)) := QO0
      clear QI0 QO0
      have QB : Hid (∀ x, Below wb.heap.size wb (W x)) := fun x => HZ.out.2.trans ((QO.out x).mono HZ.out.2.size)
      have y0 := Qc.cell_all QO.out d0
      cases h2 : isV n f with
      | false =>
        have HM : Hid (Ms n sq tm nx ls ss fs 19 0 0 ⟨#[]⟩ []) := HN1.out h2
        rw [h2] at HIN
        clear h2 HN1 HN2 HS3 HNQ HYQ HMK1 HQY
        refine Qc.region_class (W := W) (by kernel_rfl) (by kernel_rfl) (QI.out _ Qc.from_drew) ?_
        repeat (go_big_quiet_step (first | (go_at_call 29; refine (HIN.out _).mono ?_; rintro e w2 ⟨rfl, rfl⟩; exact ⟨rfl, ⟨_, rfl⟩⟩)))
        refine wpQuiet_nil ?_
        rintro _ ⟨xq, rfl⟩
        have G2 : Hid (Below wb.heap.size wb (W xq)) := QB.out xq
        clear y0 
        generalize W xq = wq at G2 ⊢
        obtain ⟨k9, g9⟩ := HY0.out _ (G2.out)
        obtain ⟨m0, n0⟩ := blk_cell k9 0 (x := .int .i64 0) rfl
        obtain ⟨m1, n1⟩ := blk_cell k9 1 (x := .int .i64 0) rfl
        obtain ⟨m2, n2⟩ := blk_cell k9 2 (x := .string ⟨#[]⟩) rfl
        obtain ⟨m3, n3⟩ := blk_cell k9 3 (x := .slice none 0 0) rfl
        have AF : ((((wq.setCell ⟨y, 0, none⟩ (.int .i64 0)).setCell ⟨y, 1, none⟩ (.int .i64 0)).setCell ⟨y, 2, none⟩ (.string ⟨#[]⟩)).setCell ⟨y, 3, none⟩ (.slice none 0 0)).heap[y]? = some (.cells #[.int .i64 0, .int .i64 0, .string ⟨#[]⟩, .slice none 0 0] 30 (0, 0)) := (blk_set (blk_set (blk_set (blk_set k9 0 (.int .i64 0)) 1 (.int .i64 0)) 2 (.string ⟨#[]⟩)) 3 (.slice none 0 0))
        have RF : Hid (Below w.heap.size w ((((wq.setCell ⟨y, 0, none⟩ (.int .i64 0)).setCell ⟨y, 1, none⟩ (.int .i64 0)).setCell ⟨y, 2, none⟩ (.string ⟨#[]⟩)).setCell ⟨y, 3, none⟩ (.slice none 0 0)) ∧ OwnV ((((wq.setCell ⟨y, 0, none⟩ (.int .i64 0)).setCell ⟨y, 1, none⟩ (.int .i64 0)).setCell ⟨y, 2, none⟩ (.string ⟨#[]⟩)).setCell ⟨y, 3, none⟩ (.slice none 0 0)) w.heap.size (.slice none 0 0) []) := ⟨(Below.setCell (Below.setCell (Below.setCell (Below.setCell g9 (p := ⟨y, 0, none⟩) (HYL.out) (.int .i64 0)) (p := ⟨y, 1, none⟩) (HYL.out) (.int .i64 0)) (p := ⟨y, 2, none⟩) (HYL.out) (.string ⟨#[]⟩)) (p := ⟨y, 3, none⟩) (HYL.out) (.slice none 0 0)), OwnV.nil _ _⟩
        clear g9 k9
        go_wp2_with fail
        generalize ((((wq.setCell ⟨y, 0, none⟩ (.int .i64 0)).setCell ⟨y, 1, none⟩ (.int .i64 0)).setCell ⟨y, 2, none⟩ (.string ⟨#[]⟩)).setCell ⟨y, 3, none⟩ (.slice none 0 0)) = wf at AF RF ⊢
        have d0 := (blk_cell AF 0 (x := .int .i64 0) rfl).1
        have d1 := (blk_cell AF 1 (x := .int .i64 0) rfl).1
        have d2 := (blk_cell AF 2 (x := .string ⟨#[]⟩) rfl).1
        have d3 := (blk_cell AF 3 (x := .slice none 0 0) rfl).1
        refine bodyPost_ret (v := .tuple #[.agg #[.int .i64 0, .int .i64 0, .string ⟨#[]⟩, .slice none 0 0], .int .i64 (19)]) (by simp [results, Tryz.results6, go_sem, d0, d1, d2, d3]) rfl ?_
        rw [HM.out.c, HM.out.q, HM.out.z, HM.out.r, HM.out.l]
        exact ⟨_, rfl, RF.out.2, RF.out.1⟩
      | true =>
        rw [h2] at HIN HS3
        clear h2 HN1
        by_cases hk0 : k = 0
        · subst hk0
          have HSS : Hid (SGf n fs (0 + 1)) := HS3.out rfl (fun i' y' e => by omega)
          have y1 : ∀ x, (W x).cell? ⟨b, off, none⟩ = some (.int .i64 f) := fun x => by simpa using y0 x
          refine Qc.region_class (W := W) (by kernel_rfl) (by kernel_rfl) (QI.out _ Qc.from_drew) ?_
          repeat (go_big_quiet_step (first | (go_at_call 29; refine (HIN.out _).mono ?_; rintro e w2 ⟨rfl, rfl⟩; exact ⟨rfl, ⟨_, rfl⟩⟩)))
          refine wpQuiet_nil ?_
          rintro _ ⟨xq, rfl⟩
          have G2 : Hid (Below wb.heap.size wb (W xq)) := QB.out xq
          clear y0 y1
          generalize W xq = wq at G2 ⊢
          go_wp2_with fail
          exact ⟨⟨0 + 1, by omega, by go_num, ⟨HSS.out, G2.out⟩⟩, by simp [intOf]; omega⟩
        · obtain ⟨j, rfl⟩ : ∃ j, k = j + 1 := ⟨k - 1, by omega⟩
          obtain ⟨pf, hpf⟩ := Rg.get_at (show j < fs.length by omega)
          have yp : ∀ x, (W x).cell? ⟨b, off + j, none⟩ = some (.int .i64 pf) := fun x => by
            obtain ⟨b', off', ea, _, q⟩ := (HRW.out _ (QB.out x)).at hpf
            cases ea
            exact q
          have HN2' : Hid (f ≤ pf → Ms n sq tm nx ls ss fs 19 0 0 ⟨#[]⟩ []) := fun hh => HN2.out j pf rfl hpf hh
          have HS3' : Hid (pf < f → SGf n fs (j + 1 + 1)) := fun h1 => HS3.out rfl (fun i' y' e hy' => by
            have : i' = j := by omega
            subst this
            rw [hpf] at hy'
            cases hy'
            exact h1)
          clear hpf HN2 HS3
          have q1 : (0 : Int) < (j : Int) + 1 := by omega
          have q2 : (j : Int) + 1 < (fs.length : Int) := by omega
          have q3 : (j : Int) < (fs.length : Int) := by omega
          by_cases hle : f ≤ pf
          · have HM : Hid (Ms n sq tm nx ls ss fs 19 0 0 ⟨#[]⟩ []) := HN2'.out hle
            have hpe : decide (f ≤ pf) = true := decide_eq_true hle
            clear HN2' HS3' HNQ HYQ HMK1 HQY
            refine Qc.region_class (W := W) (by kernel_rfl) (by kernel_rfl) (QI.out _ Qc.from_drew) ?_
            repeat (go_big_quiet_step (first | (go_at_call 29; refine (HIN.out _).mono ?_; rintro e w2 ⟨rfl, rfl⟩; exact ⟨rfl, ⟨_, rfl⟩⟩)))
            refine wpQuiet_nil ?_
            rintro _ ⟨xq, rfl⟩
            have G2 : Hid (Below wb.heap.size wb (W xq)) := QB.out xq
            clear y0 yp
            generalize W xq = wq at G2 ⊢
            obtain ⟨k9, g9⟩ := HY0.out _ (G2.out)
            obtain ⟨m0, n0⟩ := blk_cell k9 0 (x := .int .i64 0) rfl
            obtain ⟨m1, n1⟩ := blk_cell k9 1 (x := .int .i64 0) rfl
            obtain ⟨m2, n2⟩ := blk_cell k9 2 (x := .string ⟨#[]⟩) rfl
            obtain ⟨m3, n3⟩ := blk_cell k9 3 (x := .slice none 0 0) rfl
            have AF : ((((wq.setCell ⟨y, 0, none⟩ (.int .i64 0)).setCell ⟨y, 1, none⟩ (.int .i64 0)).setCell ⟨y, 2, none⟩ (.string ⟨#[]⟩)).setCell ⟨y, 3, none⟩ (.slice none 0 0)).heap[y]? = some (.cells #[.int .i64 0, .int .i64 0, .string ⟨#[]⟩, .slice none 0 0] 30 (0, 0)) := (blk_set (blk_set (blk_set (blk_set k9 0 (.int .i64 0)) 1 (.int .i64 0)) 2 (.string ⟨#[]⟩)) 3 (.slice none 0 0))
            have RF : Hid (Below w.heap.size w ((((wq.setCell ⟨y, 0, none⟩ (.int .i64 0)).setCell ⟨y, 1, none⟩ (.int .i64 0)).setCell ⟨y, 2, none⟩ (.string ⟨#[]⟩)).setCell ⟨y, 3, none⟩ (.slice none 0 0)) ∧ OwnV ((((wq.setCell ⟨y, 0, none⟩ (.int .i64 0)).setCell ⟨y, 1, none⟩ (.int .i64 0)).setCell ⟨y, 2, none⟩ (.string ⟨#[]⟩)).setCell ⟨y, 3, none⟩ (.slice none 0 0)) w.heap.size (.slice none 0 0) []) := ⟨(Below.setCell (Below.setCell (Below.setCell (Below.setCell g9 (p := ⟨y, 0, none⟩) (HYL.out) (.int .i64 0)) (p := ⟨y, 1, none⟩) (HYL.out) (.int .i64 0)) (p := ⟨y, 2, none⟩) (HYL.out) (.string ⟨#[]⟩)) (p := ⟨y, 3, none⟩) (HYL.out) (.slice none 0 0)), OwnV.nil _ _⟩
            clear g9 k9
            go_wp2_with fail
            generalize ((((wq.setCell ⟨y, 0, none⟩ (.int .i64 0)).setCell ⟨y, 1, none⟩ (.int .i64 0)).setCell ⟨y, 2, none⟩ (.string ⟨#[]⟩)).setCell ⟨y, 3, none⟩ (.slice none 0 0)) = wf at AF RF ⊢
            have d0 := (blk_cell AF 0 (x := .int .i64 0) rfl).1
            have d1 := (blk_cell AF 1 (x := .int .i64 0) rfl).1
            have d2 := (blk_cell AF 2 (x := .string ⟨#[]⟩) rfl).1
            have d3 := (blk_cell AF 3 (x := .slice none 0 0) rfl).1
            refine bodyPost_ret (v := .tuple #[.agg #[.int .i64 0, .int .i64 0, .string ⟨#[]⟩, .slice none 0 0], .int .i64 (19)]) (by simp [results, Tryz.results6, go_sem, d0, d1, d2, d3]) rfl ?_
            rw [HM.out.c, HM.out.q, HM.out.z, HM.out.r, HM.out.l]
            exact ⟨_, rfl, RF.out.2, RF.out.1⟩
          · have hpe : decide (f ≤ pf) = false := decide_eq_false hle
            have HSS : Hid (SGf n fs (j + 1 + 1)) := HS3'.out (by omega)
            clear HS3' HN2'
            refine Qc.region_class (W := W) (by kernel_rfl) (by kernel_rfl) (QI.out _ Qc.from_drew) ?_
            repeat (go_big_quiet_step (first | (go_at_call 29; refine (HIN.out _).mono ?_; rintro e w2 ⟨rfl, rfl⟩; exact ⟨rfl, ⟨_, rfl⟩⟩)))
            refine wpQuiet_nil ?_
            rintro _ ⟨xq, rfl⟩
            have G2 : Hid (Below wb.heap.size wb (W xq)) := QB.out xq
            clear y0 yp
            generalize W xq = wq at G2 ⊢
            go_wp2_with fail
            exact ⟨⟨j + 1 + 1, by omega, by go_num, ⟨HSS.out, G2.out⟩⟩, by simp [intOf]; omega⟩
    · obtain rfl : k = fs.length := by omega
      have hqy := HQY.out HQ.out HZ.out.1
      have HM : Hid (Ms n sq tm nx ls ss fs 0 sq sz rt ol) := HYQ.out hqy
      have HMK2 := HMK1.out wr (HY0.out _ HZ.out.2).2 hqy
      obtain ⟨c0, c1, c2, c3⟩ := HX0.out _ HZ.out.2
      clear hqy HMK1 HYQ HNQ HQY
      go_wp2_with fail
      refine HMK2.mono ?_
      rintro e w5 ⟨v5, rfl, o5, b5⟩
      have B5 : Hid (Below wb.heap.size wb w5) := HZ.out.2.trans (b5.mono HZ.out.2.size)
      obtain ⟨va, vc, rfl⟩ := o5.slice
      rw [HLV.out] at o5 ⊢
      clear b5 c0 c1 c2 c3 HMK2
      obtain ⟨k9, g9⟩ := HY0.out _ (B5.out)
      obtain ⟨m0, n0⟩ := blk_cell k9 0 (x := .int .i64 0) rfl
      obtain ⟨m1, n1⟩ := blk_cell k9 1 (x := .int .i64 0) rfl
      obtain ⟨m2, n2⟩ := blk_cell k9 2 (x := .string ⟨#[]⟩) rfl
      obtain ⟨m3, n3⟩ := blk_cell k9 3 (x := .slice none 0 0) rfl
      have AF : ((((w5.setCell ⟨y, 0, none⟩ (.int .i64 sq)).setCell ⟨y, 1, none⟩ (.int .i64 sz)).setCell ⟨y, 2, none⟩ (.string rt)).setCell ⟨y, 3, none⟩ (.slice va fs.length vc)).heap[y]? = some (.cells #[.int .i64 sq, .int .i64 sz, .string rt, .slice va fs.length vc] 30 (0, 0)) := (blk_set (blk_set (blk_set (blk_set k9 0 (.int .i64 sq)) 1 (.int .i64 sz)) 2 (.string rt)) 3 (.slice va fs.length vc))
      have RF : Hid (Below w.heap.size w ((((w5.setCell ⟨y, 0, none⟩ (.int .i64 sq)).setCell ⟨y, 1, none⟩ (.int .i64 sz)).setCell ⟨y, 2, none⟩ (.string rt)).setCell ⟨y, 3, none⟩ (.slice va fs.length vc)) ∧ OwnV ((((w5.setCell ⟨y, 0, none⟩ (.int .i64 sq)).setCell ⟨y, 1, none⟩ (.int .i64 sz)).setCell ⟨y, 2, none⟩ (.string rt)).setCell ⟨y, 3, none⟩ (.slice va fs.length vc)) w.heap.size (.slice va fs.length vc) ol) := ⟨(Below.setCell (Below.setCell (Below.setCell (Below.setCell g9 (p := ⟨y, 0, none⟩) (HYL.out) (.int .i64 sq)) (p := ⟨y, 1, none⟩) (HYL.out) (.int .i64 sz)) (p := ⟨y, 2, none⟩) (HYL.out) (.string rt)) (p := ⟨y, 3, none⟩) (HYL.out) (.slice va fs.length vc)), o5.kept (fun g hg => ((blk_far (own_ne o5 k9 g hg) 3 (.slice va fs.length vc)).trans ((blk_far (own_ne o5 k9 g hg) 2 (.string rt)).trans ((blk_far (own_ne o5 k9 g hg) 1 (.int .i64 sz)).trans ((blk_far (own_ne o5 k9 g hg) 0 (.int .i64 sq)).trans (Eq.refl w5.heap[g]?))))))⟩
      clear g9 k9
      clear o5
      go_wp2_with fail
      generalize ((((w5.setCell ⟨y, 0, none⟩ (.int .i64 sq)).setCell ⟨y, 1, none⟩ (.int .i64 sz)).setCell ⟨y, 2, none⟩ (.string rt)).setCell ⟨y, 3, none⟩ (.slice va fs.length vc)) = wf at AF RF ⊢
      have d0 := (blk_cell AF 0 (x := .int .i64 sq) rfl).1
      have d1 := (blk_cell AF 1 (x := .int .i64 sz) rfl).1
      have d2 := (blk_cell AF 2 (x := .string rt) rfl).1
      have d3 := (blk_cell AF 3 (x := .slice va fs.length vc) rfl).1
      refine bodyPost_ret (v := .tuple #[.agg #[.int .i64 sq, .int .i64 sz, .string rt, .slice va fs.length vc], .int .i64 (0)]) (by simp [results, Tryz.results6, go_sem, d0, d1, d2, d3]) rfl ?_
      rw [HM.out.c, HM.out.q, HM.out.z, HM.out.r, HM.out.l]
      exact ⟨_, rfl, RF.out.2, RF.out.1⟩
end Go.Proofs.YtnebohdlndiejaaGreatDoor.Xo

/- The laws' marks on a checkpoint that was handed out. -/
namespace Go.Proofs.YtnebohdlndiejaaGreatDoor.Xm
open Go.RowKit Go.Proofs.YtnebohdlndiejaaGreatDoor.Sl Go.Proofs.YtnebohdlndiejaaGreatDoor.By Go.Proofs.YtnebohdlndiejaaGreatDoor.Ap
open Go.Proofs.YtnebohdlndiejaaGreatDoor.Xo (OwnV)
open Go.Proofs.YtnebohdlndiejaaGreatDoor.Gt (Vo)
open Go.Proofs.YtnebohdlndiejaaGreatDoor.Hs (stV)
open Go.Proofs.YtnebohdlndiejaaGreatDoor.Rg (RowG RowG.slice RowG.at bel_new Wr Mid markText_any mtext)

/-- The mark in cell i of the row, counted from a. -/
def mv (a i : Nat) : Value := if i % 2 < 1 then .int .i64 ((a + i : Nat) : Int) else .string (mtext (a + i))
def Up (w : World) (g a n : Nat) : Prop := ∀ i, i < n → w.cell? ⟨g, i, none⟩ = some (mv a i)
theorem Up.below {w w' : World} {g a n : Nat} (h : Up w g a n) (hg : g < w.heap.size) (hb : Below w.heap.size w w') : Up w' g a n := fun i hi => (hb.cell (p := ⟨g, _, none⟩) hg).trans (h i hi)
theorem set_eq {w : World} {g n j : Nat} (h : Wr w g n) (hj : j < n) (x : Value) : (w.setCell ⟨g, j, none⟩ x).cell? ⟨g, j, none⟩ = some x := by
  obtain ⟨A, t, h, hn⟩ := h
  have h1 := Rg.blk_set h j x
  exact (Rg.blk_cell h1 j (x := x) (by rw [Array.getElem?_setIfInBounds, if_pos rfl, if_pos (by omega)])).1
theorem set_ne {w : World} {g i j : Nat} (hne : i ≠ j) (x : Value) : (w.setCell ⟨g, i, none⟩ x).cell? ⟨g, j, none⟩ = w.cell? ⟨g, j, none⟩ :=
  World.cell?_setCell_other _ _ _ _ (fun e => hne (by have := congrArg Addr.off e; exact this))
theorem Up.next {w : World} {g a n N : Nat} (h : Up w g a n) (hw : Wr w g N) (hn : n < N) {x : Value} (hx : x = mv a n) : Up (w.setCell ⟨g, n, none⟩ x) g a (n + 1) := fun i hi => by
  by_cases e : i = n
  · subst e
    rw [set_eq hw hn, hx]
  · exact (set_ne (fun h => e h.symm) _).trans (h i (by omega))
theorem mv_int {a q j : Nat} (hj : j < 1) {r : Int} (hr : r = ((a + (q * 2 + j) : Nat) : Int)) : Value.int .i64 r = mv a (q * 2 + j) := by unfold mv; rw [if_pos (by omega), hr]
theorem mv_str {a q j : Nat} (h1 : 1 ≤ j) (h2 : j < 2) {r : Nat} (hr : r = a + (q * 2 + j)) : Value.string (mtext r) = mv a (q * 2 + j) := by unfold mv; rw [if_neg (by omega), hr]
set_option maxRecDepth 100000 in
set_option maxHeartbeats 1600000 in
theorem markM_any (g n cap : Nat) (a : Nat) (w : World) (h : Wr w g (n * 2)) (hn : n ≤ 1048576) (ha : a ≤ 1000) (ha0 : 0 < a) :
    Calls Tryz.prog 42 #[.slice (some ⟨g, 0, none⟩) n cap, .int .i64 a] w fun e w' => e = .returned (.int .i64 ((a + n * 2 : Nat) : Int)) ∧ Up w' g a (n * 2) ∧ Wr w' g (n * 2) ∧ Mid g (g + 1) w w' := by
  have hB : g ≤ g := Nat.le_refl _
  have hC : g < g + 1 := Nat.lt_succ_self _
  have H : Hid (Wr w g (n * 2)) := h
  clear h
  go_enter Tryz.func42, Tryz.ntmps42
  go_wp2_with fail
  go_loopw [1, 5] (fun k i wr => ∃ q r : Nat, q ≤ n ∧ k = .int .i64 (r : Int) ∧ (r ≤ a + q * 2 ∧ 0 < r) ∧ i = .int .i64 q ∧ Hid (r = a + q * 2) ∧ Hid (Wr wr g (n * 2) ∧ Mid g (g + 1) w wr ∧ Up wr g a (q * 2))) (fun _ i _ => n - (intOf i).toNat)
  case atStart => exact ⟨0, a, by omega, rfl, by omega, rfl, (by show _ = _; omega), H.out, Mid.refl _ _ _, fun i hi => absurd hi (by omega)⟩
  case round =>
    obtain ⟨q, r, hq, rfl, hrb, rfl, HRR, HA⟩ := hrel
    by_cases hlt : q < n
    · have hsz : q * 2 + 1 < n * 2 := by omega
      obtain ⟨⟨x0, c0⟩, f0⟩ := HA.out.1.cell (j := q * 2) (by omega)
      have HC : Hid (Wr (wr.setCell ⟨g, q * 2, none⟩ (.int .i64 ((r : Int)))) g (n * 2) ∧ Mid g (g + 1) w (wr.setCell ⟨g, q * 2, none⟩ (.int .i64 ((r : Int)))) ∧ Up (wr.setCell ⟨g, q * 2, none⟩ (.int .i64 ((r : Int)))) g a (q * 2 + 1)) := ⟨(HA.out.1.set _ _ _), (HA.out.2.1.trans (Mid.set hB hC _ _)),
        (HA.out.2.2.next HA.out.1 (by omega) (mv_int (q := q) (j := 0) (by decide) (by have := HRR.out; omega)))⟩
      go_wp2_with fail
      generalize (wr.setCell ⟨g, q * 2, none⟩ (.int .i64 ((r : Int)))) = v0 at HC ⊢
      clear HA c0 f0
      obtain ⟨r0, HR0⟩ : ∃ r0 : Nat, Hid (r + 1 = r0) := ⟨_, rfl⟩
      have ER : Hid ((r : Int) + 1 = (r0 : Int)) := by show _ = _; have := HR0.out; omega
      rw [ER.out]
      have l0 : 0 < r0 ∧ r0 ≤ a + q * 2 + 1 := by have := HR0.out; omega
      have HL0 : Hid (r0 = a + (q * 2 + 1)) := by show _ = _; have := HR0.out; have := HRR.out; omega
      refine (markText_any r0 v0 (by omega) (by omega)).mono ?_
      rintro e u0 ⟨rfl, b0⟩
      have HD0 : Hid (Wr u0 g (n * 2) ∧ Mid g (g + 1) w u0 ∧ Up u0 g a (q * 2 + 1)) := ⟨HC.out.1.below b0, HC.out.2.1.trans (Mid.of_below b0), HC.out.2.2.below HC.out.1.lt b0⟩
      have HV0 : Hid (Value.string (mtext r0) = mv a (q * 2 + 1)) := mv_str (by decide) (by decide) HL0.out
      generalize mtext r0 = mt0 at HV0 ⊢
      obtain ⟨⟨y0, d0⟩, g0⟩ := HD0.out.1.cell (j := q * 2 + 1) (by omega)
      have HE : Hid (Wr (u0.setCell ⟨g, q * 2 + 1, none⟩ (.string mt0)) g (n * 2) ∧ Mid g (g + 1) w (u0.setCell ⟨g, q * 2 + 1, none⟩ (.string mt0)) ∧ Up (u0.setCell ⟨g, q * 2 + 1, none⟩ (.string mt0)) g a (q * 2 + 2)) := ⟨HD0.out.1.set _ _ _, HD0.out.2.1.trans (Mid.set hB hC _ _), HD0.out.2.2.next HD0.out.1 (by omega) HV0.out⟩
      clear HC b0 HV0
      go_wp2_with fail
      exact ⟨⟨q + 1, r0 + 1, by omega, by go_num, by omega, by go_num, (by show _ = _; have := HL0.out; omega), ⟨HE.out.1, HE.out.2.1, by rw [show (q + 1) * 2 = q * 2 + 2 by omega]; exact HE.out.2.2⟩⟩, by simp [intOf]; omega⟩
    · obtain rfl : q = n := by omega
      go_wp2_with fail
      go_ret
      exact ⟨Rg.ret_i (by have := HRR.out; omega), HA.out.2.2, HA.out.1, HA.out.2.1⟩
set_option maxRecDepth 100000 in
set_option maxHeartbeats 1600000 in
theorem heldM_any (g n cap : Nat) (a : Nat) (w : World) (h : Up w g a (n * 2)) (hg : g < w.heap.size) (hcap : n ≤ cap) (hn : n ≤ 1048576) (ha : a ≤ 1000) (ha0 : 0 < a) :
    Calls Tryz.prog 43 #[.slice (some ⟨g, 0, none⟩) n cap, .int .i64 a] w fun e w' => e = .returned (.int .i64 ((a + n * 2 : Nat) : Int)) ∧ Below w.heap.size w w' := by
  have H : Hid (Up w g a (n * 2)) := h
  clear h
  go_enter Tryz.func43, Tryz.ntmps43
  go_wp2_with fail
  go_loopw [1, 5] (fun k i wr => ∃ q r : Nat, q ≤ n ∧ k = .int .i64 (r : Int) ∧ (r ≤ a + q * 2 ∧ 0 < r) ∧ i = .int .i64 q ∧ Hid (r = a + q * 2) ∧ Hid (Below w.heap.size w wr)) (fun _ i _ => n - (intOf i).toNat)
  case atStart => exact ⟨0, a, by omega, rfl, by omega, rfl, (by show _ = _; omega), Below.refl _ _⟩
  case round =>
    obtain ⟨q, r, hq, rfl, hrb, rfl, HRR, HB⟩ := hrel
    by_cases hlt : q < n
    · have HU : Hid (∀ W, Below w.heap.size w W → Up W g a (n * 2)) := fun W hW => H.out.below hg hW
      have c0 : wr.cell? ⟨g, q * 2, none⟩ = some (.int .i64 ((r : Int))) := (HU.out wr HB.out (q * 2 + 0) (by omega)).trans (congrArg some (mv_int (q := q) (j := 0) (by decide) (by have := HRR.out; omega)).symm)
      have e0 : (((r : Int)) != ((r : Int))) = false := by simp
      have HT1 : Hid (∀ W : World, Calls Tryz.prog 53 #[.int .i64 ((r : Int) + 1)] W fun e w' => e = .returned (.string (mtext (r + 1))) ∧ Below W.heap.size W w') := fun W => by
        rw [show (r : Int) + 1 = ((r + 1 : Nat) : Int) by omega]; exact markText_any (r + 1) W (by omega) (by omega)
      have HV1 : Hid (Value.string (mtext (r + 1)) = mv a (q * 2 + 1)) := mv_str (by decide) (by decide) (by have := HRR.out; omega)
      have n1 : ((mtext (r + 1)).toList == (mtext (r + 1)).toList) = true := by simp
      have nn1 : ((mtext (r + 1)).toList != (mtext (r + 1)).toList) = false := by simp
      generalize mtext (r + 1) = mt1 at HT1 HV1 n1 nn1
      have hp0 : (0 : Int) ≤ (q : Int) := by omega
      have hp1 : (q : Int) < (n : Int) := by omega
      have c1 : wr.cell? ⟨g, q * 2 + 1, none⟩ = some (.string mt1) := (HU.out wr HB.out (q * 2 + 1) (by omega)).trans (congrArg some HV1.out.symm)
      go_wp2
      obtain ⟨X1, hX1, W1, QI0, QO0⟩ := Qc.klass wr
      have QI1 : Hid (∀ w', Below wr.heap.size wr w' → ∃ x, w' = W1 x) := QI0
      have QO1 : Hid (∀ x, Below wr.heap.size wr (W1 x)) := QO0
      clear QI0 QO0
      have y1 := Qc.cell_all QO1.out c1
      refine Qc.region_class (W := W1) (by kernel_rfl) (by kernel_rfl) (QI1.out _ Qc.from_drew) ?_
      repeat (go_big_quiet_step (first | (go_at_call 53; refine (HT1.out _).mono ?_; rintro e w2 ⟨rfl, b2⟩; exact ⟨rfl, Qc.back QI1.out QO1.out b2⟩)))
      refine wpQuiet_nil ?_
      rintro _ ⟨xq, rfl⟩
      have G1 : Hid (Below w.heap.size w (W1 xq)) := HB.out.trans ((QO1.out xq).mono HB.out.size)
      generalize W1 xq = w1 at G1 ⊢
      clear QI1 QO1 y1 c1 c0 e0
      go_wp2
      exact ⟨⟨q + 1, r + 2, by omega, by go_num, by omega, by go_num, (by show _ = _; have := HRR.out; omega), G1⟩, by simp [intOf]; omega⟩
    · obtain rfl : q = n := by omega
      go_wp2
      go_ret
      exact ⟨Rg.ret_i (by have := HRR.out; omega), HB.out⟩
set_option maxHeartbeats 400000 in
theorem markNilM_any (a : Nat) (ad : Option Addr) (cap : Nat) (w : World) : Calls Tryz.prog 42 #[.slice ad 0 cap, .int .i64 a] w fun e w' => e = .returned (.int .i64 (a : Int)) ∧ w' = w := by
  go_enter Tryz.func42, Tryz.ntmps42
  go_wp2_with fail
  go_loopw [1, 5] (fun k i wr => k = .int .i64 (a : Int) ∧ i = .int .i64 0 ∧ wr = w) (fun _ _ _ => 0)
  case atStart => exact ⟨rfl, rfl, rfl⟩
  case round =>
    obtain ⟨rfl, rfl, rfl⟩ := hrel
    go_wp2
    go_ret
    exact ⟨rfl, rfl⟩
set_option maxHeartbeats 400000 in
theorem heldNilM_any (a : Nat) (ad : Option Addr) (cap : Nat) (w : World) : Calls Tryz.prog 43 #[.slice ad 0 cap, .int .i64 a] w fun e w' => e = .returned (.int .i64 (a : Int)) ∧ w' = w := by
  go_enter Tryz.func43, Tryz.ntmps43
  go_wp2_with fail
  go_loopw [1, 5] (fun k i wr => k = .int .i64 (a : Int) ∧ i = .int .i64 0 ∧ wr = w) (fun _ _ _ => 0)
  case atStart => exact ⟨rfl, rfl, rfl⟩
  case round =>
    obtain ⟨rfl, rfl, rfl⟩ := hrel
    go_wp2
    go_ret
    exact ⟨rfl, rfl⟩
theorem dest {w : World} {B : Nat} {v : Value} {ms : List Vo} (h : OwnV w B v ms) : ∃ ad cap, v = .slice ad ms.length cap ∧ (ms.length = 0 ∨ ∃ g, ad = some ⟨g, 0, none⟩ ∧ B ≤ g ∧ ms.length ≤ cap ∧ Wr w g (ms.length * 2)) := by
  obtain ⟨_, h⟩ := h
  rcases h with ⟨rfl, h0⟩ | ⟨g, cap, cur, rfl, hB, hg, hc, _, hs, _⟩
  · exact ⟨none, 0, by rw [h0], .inl h0⟩
  · exact ⟨_, cap, rfl, .inr ⟨g, rfl, hB, hc, cur, _, hg, by rw [hs]; exact Nat.mul_le_mul_right 2 hc⟩⟩
/-- The votes in v bear the marks from a on. -/
def HeldM (w : World) (v : Value) (a n : Nat) : Prop := ∃ ad cap, v = .slice ad n cap ∧ (n = 0 ∨ ∃ g, ad = some ⟨g, 0, none⟩ ∧ g < w.heap.size ∧ n ≤ cap ∧ Up w g a (n * 2))
theorem HeldM.below {w w' : World} {v : Value} {a n : Nat} (h : HeldM w v a n) (hb : Below w.heap.size w w') : HeldM w' v a n := by
  obtain ⟨ad, cap, rfl, h⟩ := h
  refine ⟨ad, cap, rfl, ?_⟩
  rcases h with h | ⟨g, rfl, h2, h3, h4⟩
  · exact .inl h
  · exact .inr ⟨g, rfl, Nat.lt_of_lt_of_le h2 hb.size, h3, h4.below h2 hb⟩
theorem kp_mid {w w' : World} {g n cap : Nat} (h : Mid g (g + 1) w w') : Kp w w' (.slice (some ⟨g, 0, none⟩) n cap) (.slice (some ⟨g, 0, none⟩) n cap) :=
  ⟨h.os, h.tape, h.output, h.size, fun k hk hne => h.block k hk (by simp [Value.ownBlock] at hne; omega), fun _ _ hne => hne⟩
set_option maxRecDepth 100000 in
set_option maxHeartbeats 800000 in
theorem markStable_own (sq sz : Int) (rt : ByteArray) (v : Value) (ms : List Vo) (B : Nat) (w : World) (h : OwnV w B v ms) (hn : ms.length ≤ 1048576) :
    Calls Tryz.prog 15 #[stV sq sz rt v, .int .i64 1] w fun e w' => e = .returned (.int .i64 ((1 + ms.length * 2 : Nat) : Int)) ∧ HeldM w' v 1 ms.length ∧ Kp w w' v v := by
  have HU : Hid (∀ W, Below w.heap.size w W → Calls Tryz.prog 42 #[v, .int .i64 1] W fun e w' => e = .returned (.int .i64 ((1 + ms.length * 2 : Nat) : Int)) ∧ HeldM w' v 1 ms.length ∧ Kp w w' v v) := fun W hW => by
    obtain ⟨ad, cap, hv, hd⟩ := dest h
    clear h
    subst hv
    rcases hd with h | ⟨g, rfl, h1, h2, h3⟩
    · rw [h]
      refine (markNilM_any 1 ad cap W).mono ?_
      rintro e w' ⟨rfl, rfl⟩
      exact ⟨by simp, ⟨ad, cap, rfl, .inl rfl⟩, Kp.of_below _ hW⟩
    · refine (markM_any g ms.length cap 1 W (h3.below hW) hn (by decide) (by decide)).mono ?_
      rintro e w' ⟨rfl, m, m2, mm⟩
      exact ⟨rfl, ⟨_, cap, rfl, .inr ⟨g, rfl, m2.lt, h2, m⟩⟩, (Kp.of_below _ hW).trans (kp_mid mm)⟩
  clear h
  unfold stV
  go_enter Tryz.func15, Tryz.ntmps15
  go_wp2_with fail
  refine (HU.out _ (bel_new _ _)).mono ?_
  rintro e w1 ⟨rfl, h1, h2⟩
  have HE : Hid (HeldM w1 v 1 ms.length ∧ Kp w w1 v v) := ⟨h1, h2⟩
  clear h1 h2
  go_wp2_with fail
  go_ret
  exact ⟨rfl, HE.out⟩
set_option maxRecDepth 100000 in
set_option maxHeartbeats 800000 in
theorem heldStable_own (sq sz : Int) (rt : ByteArray) (v : Value) (n : Nat) (w : World) (h : HeldM w v 1 n) (hn : n ≤ 1048576) :
    Calls Tryz.prog 16 #[stV sq sz rt v, .int .i64 1] w fun e w' => e = .returned (.int .i64 ((1 + n * 2 : Nat) : Int)) ∧ Below w.heap.size w w' := by
  have HU : Hid (∀ W, Below w.heap.size w W → Calls Tryz.prog 43 #[v, .int .i64 1] W fun e w' => e = .returned (.int .i64 ((1 + n * 2 : Nat) : Int)) ∧ Below W.heap.size W w') := fun W hW => by
    have h' := h.below hW
    clear h
    obtain ⟨ad, cap, rfl, h⟩ := h'
    rcases h with h | ⟨g, rfl, h2, h3, h4⟩
    · rw [h]
      refine (heldNilM_any 1 ad cap W).mono ?_
      rintro e w' ⟨rfl, rfl⟩
      exact ⟨by simp, Below.refl _ _⟩
    · exact heldM_any g n cap 1 W h4 h2 h3 hn (by decide) (by decide)
  clear h
  unfold stV
  have hp : ¬ ((1 + n * 2 : Nat) : Int) < 0 := by omega
  go_enter Tryz.func16, Tryz.ntmps16
  go_wp2_with fail
  refine (HU.out _ (bel_new _ _)).mono ?_
  rintro e w1 ⟨rfl, b1⟩
  have HE : Hid (Below w.heap.size w w1) := (bel_new _ _).trans (b1.mono (by simp))
  clear b1
  go_wp2_with fail
  go_ret
  exact ⟨rfl, HE.out⟩
theorem kp_block {w w' : World} {v : Value} {k : Nat} {o : Obj} (h : Kp w w' v v) (hk : w.heap[k]? = some o) (hne : some k ≠ v.ownBlock) : w'.heap[k]? = some o := (h.block k (Array.getElem?_eq_some_iff.1 hk).1 hne).trans hk
end Go.Proofs.YtnebohdlndiejaaGreatDoor.Xm
