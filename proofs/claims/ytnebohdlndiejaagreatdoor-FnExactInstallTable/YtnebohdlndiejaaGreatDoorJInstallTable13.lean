/- Texts put together: Oft, Uw, Ux. -/
import Derived.Test.YtnebohdlndiejaaGreatDoorJInstallTable6
import Derived.Deep.RegionWith
import Derived.BigQuiet
import Derived.Test.YtnebohdlndiejaaGreatDoorJInstallTable10
/- The specification's numbers out of texts. -/
namespace Go.Proofs.YtnebohdlndiejaaGreatDoor.Of
open Go.RowKit Go.Proofs.YtnebohdlndiejaaGreatDoor.Sl Go.Proofs.YtnebohdlndiejaaGreatDoor.By Go.Proofs.YtnebohdlndiejaaGreatDoor.Ap Go.Proofs.YtnebohdlndiejaaGreatDoor.Rr

theorem bys_at (s : ByteArray) (i : Nat) (h : i < s.size) : nth (bys s) i = ((s[i]'h).toNat : Int) := by
  unfold nth bys
  have h' : i < s.data.toList.length := by simpa using h
  rw [List.getD_eq_getElem?_getD, List.getElem?_map, List.getElem?_eq_getElem h']
  rfl

set_option maxHeartbeats 400000 in
theorem l02Of_any (s : ByteArray) (w : World) (hs : s.size ≤ 4) :
    Calls Tryz.prog 115 #[.string s] w fun e w' => e = .returned (.int .i64 (beN (bys s))) ∧ w' = w := by
  have HS : Hid (s.size ≤ 4) := hs
  have hs4 : (s.size : Int) ≤ 4 := by omega
  clear hs
  go_enter Tryz.func115, Tryz.ntmps115
  go_wp2_with fail
  go_loop [3, 4] (fun n i => ∃ k : Nat, k ≤ s.size ∧ i = .int .i64 k ∧ n = .int .i64 (beN ((bys s).take k))) (fun _ i => s.size - (intOf i).toNat)
  case atStart => exact ⟨0, by omega, rfl, rfl⟩
  case round =>
    obtain ⟨k, hk, rfl, rfl⟩ := hrel
    by_cases hlt : k < s.size
    · have hb := (s[k]'hlt).toNat_lt
      have HM : Hid (beN ((bys s).take (k + 1)) = beN ((bys s).take k) * 256 + ((s[k]'hlt).toNat : Int)) := by show _ = _; rw [take_succ_nth (by rw [bys_length]; exact hlt), beN_snoc, bys_at s k hlt]
      have hbn := beN_range ((bys s).take k) (fun x hx => bys_range s x (List.mem_of_mem_take hx))
      have hb2 : beN ((bys s).take k) < 16777216 := by
        have : (256 : Int) ^ ((bys s).take k).length ≤ 256 ^ 3 := by
          have h3 : ((bys s).take k).length ≤ 3 := by rw [List.length_take, bys_length]; have := HS.out; omega
          generalize ((bys s).take k).length = q at h3
          match q, h3 with
          | 0, _ => decide
          | 1, _ => decide
          | 2, _ => decide
          | 3, _ => decide
        have e : (256 : Int) ^ 3 = 16777216 := rfl
        omega
      generalize beN ((bys s).take k) = m at hbn hb2 HM
      have hb0 := hbn.1
      clear hbn
      go_wp2
      go_round
      case rel => exact ⟨k + 1, by omega, by go_num, val_eq (by rw [HM.out])⟩
      case measure => simp [intOf]; omega
    · have HK : Hid (k = s.size) := by show _ = _; omega
      go_wp2
      go_ret
      refine ⟨?_, rfl⟩
      rw [HK.out, List.take_of_length_le (by rw [bys_length]; exact Nat.le_refl _)]
      rfl
end Go.Proofs.YtnebohdlndiejaaGreatDoor.Of

/- The specification's reader of tables: its numbers and texts. -/
namespace Go.Proofs.YtnebohdlndiejaaGreatDoor.Us
open Go.RowKit Go.Proofs.YtnebohdlndiejaaGreatDoor.Sl Go.Proofs.YtnebohdlndiejaaGreatDoor.By Go.Proofs.YtnebohdlndiejaaGreatDoor.Ap Go.Proofs.YtnebohdlndiejaaGreatDoor.Rr Go.Proofs.YtnebohdlndiejaaGreatDoor.Tb Go.Proofs.YtnebohdlndiejaaGreatDoor.Tw Go.Proofs.YtnebohdlndiejaaGreatDoor.Ur

theorem str_bys (s : ByteArray) : strOfNums (bys s) = s := by
  apply ByteArray.ext
  apply Array.ext'
  rw [strOfNums_data]
  unfold bys
  rw [List.map_map]
  conv => rhs; rw [← List.map_id s.data.toList]
  apply List.map_congr_left
  intro b _
  simp
theorem bys_ext (s : ByteArray) (a b : Nat) : bys (s.extract a b) = ((bys s).take b).drop a := by
  unfold bys
  rw [ByteArray.data_extract, Array.toList_extract, List.extract_eq_take_drop, ← List.drop_take, List.map_drop, List.map_take]
/-- The specification's reader in block p. -/
def Rdp (W : World) (p : Nat) (xs : List Int) (sh : Bool) : Prop := ∃ s, W.heap[p]? = some (.cells #[.string s, .bool sh] 144 (0, 0)) ∧ (sh = false → bys s = xs) ∧ (sh = true → xs = []) ∧ s.size ≤ 65536
theorem Rdp.kept {W W' : World} {p : Nat} {xs : List Int} {sh : Bool} (h : Rdp W p xs sh) (hp : W'.heap[p]? = W.heap[p]?) : Rdp W' p xs sh := by
  obtain ⟨s, h1, h2⟩ := h
  exact ⟨s, hp.trans h1, h2⟩
theorem Rdp.lt {W : World} {p : Nat} {xs : List Int} {sh : Bool} (h : Rdp W p xs sh) : p < W.heap.size := by
  obtain ⟨s, h1, _⟩ := h
  exact (Array.getElem?_eq_some_iff.1 h1).1
theorem tk_nil (n : Nat) : tkB n [] = [] ∧ tkR n [] = [] := by
  unfold tkB tkR
  constructor
  · split
    · rfl
    · simp
  · split
    · rfl
    · simp
set_option maxRecDepth 100000 in
set_option maxHeartbeats 800000 in
theorem text_any (n p : Nat) (xs : List Int) (sh : Bool) (w : World) (h : Rdp w p xs sh) (hn : n ≤ 65535) :
    Calls Tryz.prog 83 #[.pointer (some ⟨p, 0, none⟩), .int .i64 n] w fun e w' => e = .returned (.string (strOfNums (tkB n xs))) ∧ Rdp w' p (tkR n xs) (tkS n xs sh) ∧ w.grownBy w' (some p) := by
  obtain ⟨s, hb, h1, h2, hs⟩ := h
  have HB : Hid (w.heap[p]? = some (.cells #[.string s, .bool sh] 144 (0, 0))) := hb
  obtain ⟨c0, f0⟩ := blk_cell hb 0 (x := .string s) rfl
  obtain ⟨c1, f1⟩ := blk_cell hb 1 (x := .bool sh) rfl
  clear hb
  rcases Bool.eq_false_or_eq_true sh with hsh | hsh
  · subst hsh
    have HE : Hid (strOfNums (tkB n xs) = ⟨#[]⟩ ∧ tkR n xs = [] ∧ tkS n xs true = true) := by
      rw [h2 rfl, (tk_nil n).1, (tk_nil n).2]
      exact ⟨rfl, rfl, by unfold tkS; rfl⟩
    clear h1 h2
    go_enter Tryz.func83, Tryz.ntmps83
    go_wp2_with fail
    go_ret
    rw [HE.out.1, HE.out.2.1, HE.out.2.2]
    exact ⟨rfl, ⟨s, set1 HB.out, (fun h => by cases h), (fun _ => rfl), hs⟩, grown_set _ _⟩
  · subst hsh
    have hx := h1 rfl
    have hsz : xs.length = s.size := by rw [← hx, bys_length]
    by_cases hlt : s.size < n
    · have HE : Hid (strOfNums (tkB n xs) = ⟨#[]⟩ ∧ tkR n xs = [] ∧ tkS n xs false = true) := by
        have hl : xs.length < n := by omega
        refine ⟨?_, if_pos hl, ?_⟩
        · have e : tkB n xs = [] := if_pos hl
          rw [e]; rfl
        · unfold tkS; rw [decide_eq_true hl]; rfl
      have hlt' : (s.size : Int) < (n : Int) := by omega
      clear h1 h2 hx hsz hlt
      go_enter Tryz.func83, Tryz.ntmps83
      go_wp2_with fail
      go_ret
      rw [HE.out.1, HE.out.2.1, HE.out.2.2]
      exact ⟨rfl, ⟨s, set1 HB.out, (fun h => by cases h), (fun _ => rfl), hs⟩, grown_set _ _⟩
    · have HE : Hid (strOfNums (tkB n xs) = s.extract 0 n ∧ bys (s.extract n s.size) = tkR n xs ∧ tkS n xs false = false ∧ (s.extract n s.size).size ≤ 65536) := by
        have hl : ¬ xs.length < n := by omega
        have e1 : tkB n xs = xs.take n := if_neg hl
        have e2 : tkR n xs = xs.drop n := if_neg hl
        have e3 : xs.take n = bys (s.extract 0 n) := by rw [bys_ext, List.drop_zero, hx]
        have e4 : xs.drop n = bys (s.extract n s.size) := by rw [bys_ext, hx, List.take_of_length_le (by omega)]
        refine ⟨by rw [e1, e3, str_bys], by rw [e2, e4], by unfold tkS; rw [decide_eq_false hl]; rfl, ?_⟩
        rw [ByteArray.size_extract]; omega
      have hlt' : (n : Int) ≤ (s.size : Int) := by omega
      have hn0 : (0 : Int) ≤ (n : Int) := by omega
      clear h1 h2 hx hsz hlt
      go_enter Tryz.func83, Tryz.ntmps83
      go_wp2_with fail
      go_ret
      rw [HE.out.1, HE.out.2.2.1]
      exact ⟨rfl, ⟨_, set0 HB.out, (fun _ => HE.out.2.1), (fun h => by cases h), HE.out.2.2.2⟩, grown_set _ _⟩
set_option maxRecDepth 100000 in
set_option maxHeartbeats 800000 in
theorem number_any (n p : Nat) (xs : List Int) (sh : Bool) (w : World) (h : Rdp w p xs sh) (hn : n ≤ 4) (hr : ∀ x ∈ xs, 0 ≤ x ∧ x ≤ 255) :
    Calls Tryz.prog 82 #[.pointer (some ⟨p, 0, none⟩), .int .i64 n] w fun e w' => e = .returned (.int .i64 (nv n xs)) ∧ Rdp w' p (tkR n xs) (tkS n xs sh) ∧ w.grownBy w' (some p) := by
  have HT : Hid (Calls Tryz.prog 83 #[.pointer (some ⟨p, 0, none⟩), .int .i64 n] w fun e w' => e = .returned (.string (strOfNums (tkB n xs))) ∧ Rdp w' p (tkR n xs) (tkS n xs sh) ∧ w.grownBy w' (some p)) := text_any n p xs sh w h (by omega)
  have HB : Hid (∀ W, Calls Tryz.prog 115 #[.string (strOfNums (tkB n xs))] W fun e w' => e = .returned (.int .i64 (nv n xs)) ∧ w' = W) := fun W => by
    have h1 := Of.l02Of_any (strOfNums (tkB n xs)) W (by rw [strOfNums_size]; have := tkB_len n xs; omega)
    have e : bys (strOfNums (tkB n xs)) = tkB n xs := by
      unfold bys
      rw [strOfNums_data, List.map_map]
      conv => rhs; rw [← List.map_id (tkB n xs)]
      apply List.map_congr_left
      intro x hx
      have := tkB_range hr x hx
      simp only [Function.comp_apply, id]
      rw [UInt8.toNat_ofNat_of_lt' (by unfold UInt8.size; omega)]
      omega
    rw [e] at h1
    exact h1
  generalize strOfNums (tkB n xs) = t at HT HB
  generalize nv n xs = z at HB
  clear h hr
  go_enter Tryz.func82, Tryz.ntmps82
  go_wp2_with fail
  refine HT.out.mono ?_
  rintro e w1 ⟨rfl, r1, g1⟩
  go_wp2_with fail
  refine (HB.out w1).mono ?_
  rintro e w2 ⟨rfl, e2⟩
  rw [e2]
  go_wp2_with fail
  go_ret
  exact ⟨rfl, r1, g1⟩
end Go.Proofs.YtnebohdlndiejaaGreatDoor.Us

/- While the specification reads a table: what is known of memory. -/
namespace Go.Proofs.YtnebohdlndiejaaGreatDoor.Us
open Go.RowKit Go.Proofs.YtnebohdlndiejaaGreatDoor.Sl Go.Proofs.YtnebohdlndiejaaGreatDoor.By Go.Proofs.YtnebohdlndiejaaGreatDoor.Ap Go.Proofs.YtnebohdlndiejaaGreatDoor.Rr Go.Proofs.YtnebohdlndiejaaGreatDoor.Tb Go.Proofs.YtnebohdlndiejaaGreatDoor.Tw
open Go.Proofs.YtnebohdlndiejaaGreatDoor.Ur (nv itR itS itL itL_len itR_succ itS_succ itL_succ Less wtO wtR wtS lkO lkR lkS lkS3 lk3 snO snR snS sn5 cnt tbO tbR tbS tbA tbB tbC tb2 tbS1 tbS2 Mem Apart pair_snoc)
open Go.Proofs.YtnebohdlndiejaaGreatDoor.Wa (OwnW OwnS clW oneW clS oneS infoS infoW)
open Go.Proofs.YtnebohdlndiejaaGreatDoor.Lo (LkA uV clL oneL OwnL own_block kind_ne infoL)

/-- Once short, always short. -/
theorem itS_true {f : List Int → List Int} {g : List Int → Bool → Bool} (hg : ∀ xs, g xs true = true) (xs : List Int) (sh : Bool) {k n : Nat} (hk : k ≤ n) (h : itS f g k xs sh = true) : itS f g n xs sh = true := by
  induction n with
  | zero => obtain rfl : k = 0 := by omega
            exact h
  | succ n ih =>
    by_cases e : k = n + 1
    · rw [← e]; exact h
    · rw [itS_succ, ih (by omega)]; exact hg _
theorem wtS_true (xs : List Int) : wtS xs true = true := rfl
theorem lkS_true (xs : List Int) : lkS xs true = true := by
  unfold lkS
  have e : tkS 1 (lk3 xs) (lkS3 xs true) = true := rfl
  rw [e]
  exact itS_true wtS_true _ true (Nat.zero_le _) rfl
theorem snS_true (xs : List Int) : snS xs true = true := rfl
theorem Mem.setq {W : World} {B : Nat} {v2 v3 : Value} {ms : List LkA} {ss : List Sn} (h : Mem W B v2 v3 ms ss) {q : Nat} {cs : Array Value} {t : TypeId} (hq : W.heap[q]? = some (.cells cs t (0, 0))) (h1 : 98 ≠ t) (h2 : 101 ≠ t) (h3 : 105 ≠ t) (i : Nat) (v : Value) : Mem (W.setCell ⟨q, i, none⟩ v) B v2 v3 ms ss :=
  ⟨h.ol.kept fun g hg => blk_far (by obtain ⟨c, e⟩ := own_block h.ol hg; exact kind_ne e hq h1) i v, fun m hm => (h.ow m hm).kept fun g hg => blk_far (by obtain ⟨c, e⟩ := own_block (h.ow m hm) hg; exact kind_ne e hq h2) i v, h.di, h.os.kept fun g hg => blk_far (by obtain ⟨c, e⟩ := own_block h.os hg; exact kind_ne e hq h3) i v⟩
/-- All rows lie below a block. -/
structure Low (N : Nat) (v2 v3 : Value) (ms : List LkA) : Prop where
  l : ∀ g, v2.ownBlock = some g → g < N
  s : ∀ g, v3.ownBlock = some g → g < N
  w : ∀ m ∈ ms, ∀ g, (uV m).ownBlock = some g → g < N
theorem Mem.low {W : World} {B : Nat} {v2 v3 : Value} {ms : List LkA} {ss : List Sn} (h : Mem W B v2 v3 ms ss) : Low W.heap.size v2 v3 ms :=
  ⟨fun g hg => (h.ol.lt g hg).2, fun g hg => (h.os.lt g hg).2, fun m hm g hg => ((h.ow m hm).lt g hg).2⟩
theorem Mem.setn {W : World} {B N : Nat} {v2 v3 : Value} {ms : List LkA} {ss : List Sn} (h : Mem W B v2 v3 ms ss) (hl : Low N v2 v3 ms) {q : Nat} (hq : N ≤ q) (i : Nat) (v : Value) : Mem (W.setCell ⟨q, i, none⟩ v) B v2 v3 ms ss :=
  ⟨h.ol.kept fun g hg => blk_far (by have := hl.l g hg; omega) i v, fun m hm => (h.ow m hm).kept fun g hg => blk_far (by have := hl.w m hm g hg; omega) i v, h.di, h.os.kept fun g hg => blk_far (by have := hl.s g hg; omega) i v⟩
structure Sp (w : World) (tq : Nat) (W : World) (tm nx : Int) (v2 v3 : Value) (ms : List LkA) (ss : List Sn) (xs : List Int) (sh : Bool) : Prop where
  a : W.heap[w.heap.size]? = some (.cells #[.int .i64 0, .int .i64 0, .slice none 0 0, .slice none 0 0] 36 (0, 0))
  rd : Rdp W (w.heap.size + 1) xs sh
  t : W.heap[tq]? = some (.cells #[.int .i64 tm, .int .i64 nx, v2, v3] 36 (0, 0))
  g : Below w.heap.size w W
  me : Mem W (w.heap.size + 2) v2 v3 ms ss
  tl : w.heap.size + 2 ≤ tq
section
variable {w wr W W' : World} {tq : Nat} {tm nx : Int} {v2 v3 : Value} {ms : List LkA} {ss : List Sn} {xs ys : List Int} {sh sb : Bool}
theorem Sp.size (h : Sp w tq W tm nx v2 v3 ms ss xs sh) : tq < W.heap.size := (Array.getElem?_eq_some_iff.1 h.t).1
theorem gb {p B : Nat} (hg : W.grownBy W' (some p)) (hp : p < W.heap.size) (hB : B ≤ p) : Below B W W' := ⟨hg.os, hg.tape, hg.output, hg.size, fun k hk => hg.block k (by omega) (by simp; omega)⟩
theorem Sp.num (h : Sp w tq W tm nx v2 v3 ms ss xs sh) (r : Rdp W' (w.heap.size + 1) ys sb) (g : W.grownBy W' (some (w.heap.size + 1))) : Sp w tq W' tm nx v2 v3 ms ss ys sb :=
  ⟨blk_kept h.a g (by have := h.tl; omega), r, blk_kept h.t g (by have := h.tl; omega), h.g.trans (gb g h.rd.lt (by have := h.tl; omega)), h.me.kept fun k hk hl => g.block k hl (by simp; omega), h.tl⟩
theorem Sp.up (h : Sp w tq W tm nx v2 v3 ms ss xs sh) (hb : Below W.heap.size W W') : Sp w tq W' tm nx v2 v3 ms ss xs sh :=
  ⟨(hb.block _ (Array.getElem?_eq_some_iff.1 h.a).1).trans h.a, h.rd.kept (hb.block _ h.rd.lt), (hb.block _ (Array.getElem?_eq_some_iff.1 h.t).1).trans h.t, h.g.trans (hb.mono h.g.size), h.me.kept fun k _ hl => hb.block k hl, h.tl⟩
theorem Sp.setn {N : Nat} (h : Sp w tq W tm nx v2 v3 ms ss xs sh) (hl : Low N v2 v3 ms) (hN : tq < N) {q : Nat} (hq : N ≤ q) (i : Nat) (v : Value) : Sp w tq (W.setCell ⟨q, i, none⟩ v) tm nx v2 v3 ms ss xs sh :=
  ⟨(blk_far (by have := h.tl; omega) i v).trans h.a, h.rd.kept (blk_far (by have := h.tl; omega) i v), (blk_far (by have := h.tl; omega) i v).trans h.t, Below.setCell h.g (p := ⟨q, i, none⟩) (by show _ ≤ q; have := h.tl; omega) v, Mem.setn h.me hl hq i v, h.tl⟩
theorem Sp.set1 (h : Sp w tq W tm nx v2 v3 ms ss xs sh) (z : Int) : Sp w tq (W.setCell ⟨tq, 1, none⟩ (.int .i64 z)) tm z v2 v3 ms ss xs sh :=
  ⟨(blk_far (by have := h.tl; omega) 1 _).trans h.a, h.rd.kept (blk_far (by have := h.tl; omega) 1 _), blk_set h.t 1 _, Below.setCell h.g (p := ⟨tq, 1, none⟩) (by show _ ≤ tq; have := h.tl; omega) _, Mem.setq h.me h.t (by decide) (by decide) (by decide) 1 _, h.tl⟩
theorem Sp.bad (h : Sp w tq W tm nx v2 v3 ms ss xs sh) : W.cell? ⟨w.heap.size + 1, 1, none⟩ = some (.bool sh) := by
  obtain ⟨s, h1, _⟩ := h.rd
  exact (blk_cell h1 1 (x := .bool sh) rfl).1
theorem Sp.drew (h : Sp w tq W tm nx v2 v3 ms ss xs sh) : Sp w tq W.drew tm nx v2 v3 ms ss xs sh := ⟨h.a, h.rd.kept rfl, h.t, h.g.drew, h.me.kept fun _ _ _ => rfl, h.tl⟩
end
/-- While a lock is read: its block, its waiters. -/
structure Sk (w : World) (tq : Nat) (wr W : World) (q : Nat) (tm nx : Int) (v2 v3 : Value) (ms : List LkA) (ss : List Sn) (kc : Array Value) (u : Value) (ws : List Wt) (xs : List Int) (sh : Bool) : Prop where
  sp : Sp w tq W tm nx v2 v3 ms ss xs sh
  k : W.heap[q]? = some (.cells kc 98 (0, 0))
  ow : OwnW W wr.heap.size u ws
  lo : Low wr.heap.size v2 v3 ms
  qn : tq < wr.heap.size ∧ wr.heap.size ≤ q
section
variable {w wr W W' : World} {tq q : Nat} {tm nx : Int} {v2 v3 : Value} {ms : List LkA} {ss : List Sn} {kc : Array Value} {u : Value} {ws : List Wt} {xs ys : List Int} {sh sb : Bool}
theorem Sk.num (h : Sk w tq wr W q tm nx v2 v3 ms ss kc u ws xs sh) (r : Rdp W' (w.heap.size + 1) ys sb) (g : W.grownBy W' (some (w.heap.size + 1))) : Sk w tq wr W' q tm nx v2 v3 ms ss kc u ws ys sb :=
  ⟨h.sp.num r g, blk_kept h.k g (by have := h.qn; have := h.sp.tl; omega), h.ow.kept fun x hx => g.block x (h.ow.lt x hx).2 (by have := (h.ow.lt x hx).1; have := h.qn; have := h.sp.tl; simp; omega), h.lo, h.qn⟩
theorem Sk.set (h : Sk w tq wr W q tm nx v2 v3 ms ss kc u ws xs sh) (i : Nat) (v : Value) : Sk w tq wr (W.setCell ⟨q, i, none⟩ v) q tm nx v2 v3 ms ss (kc.setIfInBounds i v) u ws xs sh :=
  ⟨h.sp.setn h.lo h.qn.1 h.qn.2 i v, blk_set h.k i v, h.ow.kept fun g hg => blk_far (by obtain ⟨c, e⟩ := own_block h.ow hg; exact kind_ne e h.k (by decide)) i v, h.lo, h.qn⟩
theorem Sk.up (h : Sk w tq wr W q tm nx v2 v3 ms ss kc u ws xs sh) (hb : Below W.heap.size W W') : Sk w tq wr W' q tm nx v2 v3 ms ss kc u ws xs sh :=
  ⟨h.sp.up hb, (hb.block _ (Array.getElem?_eq_some_iff.1 h.k).1).trans h.k, h.ow.below hb, h.lo, h.qn⟩
theorem Sk.drew (h : Sk w tq wr W q tm nx v2 v3 ms ss kc u ws xs sh) : Sk w tq wr W.drew q tm nx v2 v3 ms ss kc u ws xs sh := ⟨h.sp.drew, h.k, h.ow.kept fun _ _ => rfl, h.lo, h.qn⟩
theorem Sk.alloc (h : Sk w tq wr W q tm nx v2 v3 ms ss kc u ws xs sh) (o : Obj) : Sk w tq wr (W.alloc o) q tm nx v2 v3 ms ss kc u ws xs sh := h.up ((Below.refl _ _).alloc (Nat.le_refl _) _)
end
/-- One that waits joined, and is not stored yet. -/
structure Sj (w : World) (tq : Nat) (wr W : World) (q : Nat) (tm nx : Int) (v2 v3 : Value) (ms : List LkA) (ss : List Sn) (kc : Array Value) (u : Value) (ws : List Wt) (xs : List Int) (sh : Bool) : Prop where
  sk : Sk w tq wr W q tm nx v2 v3 ms ss kc u ws xs sh
theorem step_wt {P : Program} {ops : Array Oper} {o : Oper} {a : Act} {K : Act → World → Prop} {Q : Exit → Act → World → Prop} {E : Prop} {i : TypeInfo} (hgd : o.guard = none) (s z : Operand) (t : TypeId) (ho : o.op = .call { callee := .builtin .append, args := #[s, z], argTypes := #[t, t] }) (ht : P.underlying t = some (.slice 101)) (hi : P.info? 101 = some i) (hz : i.zero = some (.agg #[.int .i64 0, .int .i64 0]))
    (hsize : i.size = 2) (hby : i.bytes = 16) (W w wr : World) (tq q : Nat) (tm nx : Int) (v2 v3 : Value) (ms : List LkA) (ss : List Sn) (kc : Array Value) (u : Value) (ws : List Wt) (m : Wt) (xs : List Int) (sh : Bool) (hs : a.eval s = u) (gx : Nat) (hx : a.eval z = .slice (some ⟨gx, 0, none⟩) 1 1) (hbx : W.heap[gx]? = some (.cells #[.int .i64 m.c, .int .i64 m.l] 101 (0, 0)))
    (htb : Sk w tq wr W q tm nx v2 v3 ms ss kc u ws xs sh) (hlen : ws.length ≤ 1000000)
    (h : ∀ v' w', Sj w tq wr w' q tm nx v2 v3 ms ss kc v' (ws ++ [m]) xs sh → K (a.put o.dst v') w') : if Region.wanted o (yielded ops a.tmps) = true then Oper.wp P o a W K Q else E := by
  have hw : Region.wanted o (yielded ops a.tmps) = true := by simp [Region.wanted, hgd]
  rw [if_pos hw]
  have hol := htb.ow
  have hsz : wr.heap.size ≤ W.heap.size := by have := (Array.getElem?_eq_some_iff.1 htb.k).1; have := htb.qn; omega
  obtain ⟨v', w', hr, h2, h3, _, h5⟩ := run_append_own_at (P := P) W wr.heap.size t o.type 101 i _ 2 16 ht hi hz hsize hby rfl (by decide) u ws.length _ hol ⟨gx, 0, none⟩ 1 1 (clW m) rfl (by
    intro j u hj
    have e2 : (⟨gx, 0, none⟩ : Addr).add j = ⟨gx, j, none⟩ := by unfold Addr.add; split <;> simp_all
    rw [e2, Joins.cell_of_block hbx, ← hj]
    simp [clW]) (oneW m) (by unfold maxLen; omega) (by omega) hsz
  have kp : ∀ k, k < W.heap.size → some k ≠ u.ownBlock → w'.heap[k]? = W.heap[k]? := fun k hk hn => h3.block k hk hn
  have ne : ∀ k, k < wr.heap.size → some k ≠ u.ownBlock := fun k hk e => by have := (hol.lt k e.symm).1; omega
  have hsp := htb.sp
  have hq := htb.qn
  refine wp_app ho hs hx hr (h v' w' ⟨⟨⟨(kp _ (by have := hsp.size; have := hsp.tl; omega) (ne _ (by have := hsp.tl; omega))).trans hsp.a, hsp.rd.kept (kp _ hsp.rd.lt (ne _ (by have := hsp.tl; omega))), (kp _ (by have := hsp.size; have := hsp.tl; omega) (ne _ (by have := hsp.tl; omega))).trans hsp.t, ⟨h3.os.trans hsp.g.os, h3.tape.trans hsp.g.tape, h3.output.trans hsp.g.output, Nat.le_trans hsp.g.size h3.size, fun k hk => (kp k (by have := hsp.size; have := hsp.tl; omega) (ne k (by have := hsp.tl; omega))).trans (hsp.g.block k hk)⟩, ?_, hsp.tl⟩, ?_, by unfold OwnW; rw [List.flatMap_append, List.length_append]; simpa using h2, htb.lo, hq⟩⟩)
  · exact ⟨hsp.me.ol.kept fun g hg => kp g (hsp.me.ol.lt g hg).2 (ne g (htb.lo.l g hg)), fun m hm => (hsp.me.ow m hm).kept fun g hg => kp g ((hsp.me.ow m hm).lt g hg).2 (ne g (htb.lo.w m hm g hg)), hsp.me.di, hsp.me.os.kept fun g hg => kp g (hsp.me.os.lt g hg).2 (ne g (htb.lo.s g hg))⟩
  · refine (kp q (Array.getElem?_eq_some_iff.1 htb.k).1 fun e => ?_).trans htb.k
    obtain ⟨c1, e1⟩ := own_block hol e.symm
    exact kind_ne e1 htb.k (by decide) rfl
/-- The lock joins the table. -/
theorem Sk.join {w wr W W' : World} {tq q : Nat} {tm nx : Int} {v2 v3 v' : Value} {ms : List LkA} {ss : List Sn} {kc : Array Value} {xs : List Int} {sh : Bool} {m : LkA} (h : Sk w tq wr W q tm nx v2 v3 ms ss kc (uV m) m.1.ws xs sh) (ol : OwnL W' (w.heap.size + 2) v' (ms ++ [m])) (hb : Below (w.heap.size + 2) W W') (kp : ∀ k, k < W.heap.size → some k ≠ v2.ownBlock → W'.heap[k]? = W.heap[k]?) :
    W'.cell? ⟨tq, 2, none⟩ = some v2 ∧ W'.frozen? ⟨tq, 2, none⟩ = false ∧ Sp w tq (W'.setCell ⟨tq, 2, none⟩ v') tm nx v' v3 (ms ++ [m]) ss xs sh := by
  have hsp := h.sp
  have hz := hsp.size
  have ne4 : ∀ (g : Nat) (cs : Array Value) (t : TypeId), W.heap[g]? = some (.cells cs t (0, 0)) → t ≠ 98 → W'.heap[g]? = W.heap[g]? := fun g cs t hg ht => kp g (Array.getElem?_eq_some_iff.1 hg).1 fun e => by
    obtain ⟨c1, e1⟩ := own_block hsp.me.ol e.symm
    exact kind_ne e1 hg (Ne.symm ht) rfl
  have ht := (ne4 _ _ _ hsp.t (by decide)).trans hsp.t
  obtain ⟨c, f⟩ := blk_cell ht 2 (x := v2) rfl
  have fw : ∀ (B : Nat) (u : Value) (ws : List Wt), OwnW W B u ws → OwnW W' B u ws := fun B u ws hu => hu.kept fun g hg => by
    obtain ⟨c1, e1⟩ := own_block hu hg
    exact ne4 g _ _ e1 (by decide)
  have hm : Mem W' (w.heap.size + 2) v' v3 (ms ++ [m]) ss := by
    refine ⟨ol, fun x hx => ?_, pair_snoc hsp.me.di fun x hx g hg e => ?_, hsp.me.os.kept fun g hg => ?_⟩
    · rcases List.mem_append.1 hx with hx | hx
      · exact fw _ _ _ (hsp.me.ow x hx)
      · rw [List.mem_singleton.1 hx]; exact fw _ _ _ (h.ow.mono (by have := h.qn; have := hsp.tl; omega))
    · have h1 := h.lo.w x hx g hg
      have h2 := (h.ow.lt g e).1
      omega
    · obtain ⟨c1, e1⟩ := own_block hsp.me.os hg
      exact ne4 g _ _ e1 (by decide)
  refine ⟨c, f, ⟨(blk_far (by have := hsp.tl; omega) 2 _).trans ((hb.block _ (by have := hsp.tl; omega)).trans hsp.a), (hsp.rd.kept (hb.block _ (by have := hsp.tl; omega))).kept (blk_far (by have := hsp.tl; omega) 2 _), blk_set ht 2 _, ?_, Mem.setq hm ht (by decide) (by decide) (by decide) 2 _, hsp.tl⟩⟩
  exact Below.setCell (hsp.g.trans (hb.mono (by have := hsp.tl; omega))) (p := ⟨tq, 2, none⟩) (by show _ ≤ tq; have := hsp.tl; omega) _
/-- What was seen joins the table. -/
theorem Sp.joinS {w W W' : World} {tq : Nat} {tm nx : Int} {v2 v3 v' : Value} {ms : List LkA} {ss : List Sn} {xs : List Int} {sh : Bool} {m : Sn} (hsp : Sp w tq W tm nx v2 v3 ms ss xs sh) (os : OwnS W' (w.heap.size + 2) v' (ss ++ [m])) (hb : Below (w.heap.size + 2) W W') (kp : ∀ k, k < W.heap.size → some k ≠ v3.ownBlock → W'.heap[k]? = W.heap[k]?) :
    W'.cell? ⟨tq, 3, none⟩ = some v3 ∧ W'.frozen? ⟨tq, 3, none⟩ = false ∧ Sp w tq (W'.setCell ⟨tq, 3, none⟩ v') tm nx v2 v' ms (ss ++ [m]) xs sh := by
  have hz := hsp.size
  have ne4 : ∀ (g : Nat) (cs : Array Value) (t : TypeId), W.heap[g]? = some (.cells cs t (0, 0)) → t ≠ 105 → W'.heap[g]? = W.heap[g]? := fun g cs t hg ht => kp g (Array.getElem?_eq_some_iff.1 hg).1 fun e => by
    obtain ⟨c1, e1⟩ := own_block hsp.me.os e.symm
    exact kind_ne e1 hg (Ne.symm ht) rfl
  have ht := (ne4 _ _ _ hsp.t (by decide)).trans hsp.t
  obtain ⟨c, f⟩ := blk_cell ht 3 (x := v3) rfl
  have hm : Mem W' (w.heap.size + 2) v2 v' ms (ss ++ [m]) := by
    refine ⟨hsp.me.ol.kept fun g hg => ?_, fun x hx => (hsp.me.ow x hx).kept fun g hg => ?_, hsp.me.di, os⟩
    · obtain ⟨c1, e1⟩ := own_block hsp.me.ol hg
      exact ne4 g _ _ e1 (by decide)
    · obtain ⟨c1, e1⟩ := own_block (hsp.me.ow x hx) hg
      exact ne4 g _ _ e1 (by decide)
  refine ⟨c, f, ⟨(blk_far (by have := hsp.tl; omega) 3 _).trans ((hb.block _ (by have := hsp.tl; omega)).trans hsp.a), (hsp.rd.kept (hb.block _ (by have := hsp.tl; omega))).kept (blk_far (by have := hsp.tl; omega) 3 _), blk_set ht 3 _, ?_, Mem.setq hm ht (by decide) (by decide) (by decide) 3 _, hsp.tl⟩⟩
  exact Below.setCell (hsp.g.trans (hb.mono (by have := hsp.tl; omega))) (p := ⟨tq, 3, none⟩) (by show _ ≤ tq; have := hsp.tl; omega) _
end Go.Proofs.YtnebohdlndiejaaGreatDoor.Us
