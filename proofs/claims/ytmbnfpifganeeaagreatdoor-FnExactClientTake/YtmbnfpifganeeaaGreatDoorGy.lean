/- Replies in a slice: read, measured, copied, compared. -/
import Derived.Test.YtmbnfpifganeeaaGreatDoorRg
namespace Go.Proofs.YtmbnfpifganeeaaGreatDoor.Gy
open Go.RowKit Go.Proofs.YtmbnfpifganeeaaGreatDoor.Sl Go.Proofs.YtmbnfpifganeeaaGreatDoor.Ap Go.Proofs.YtmbnfpifganeeaaGreatDoor.Rg

structure Re where
  nd : Int
  cl : Int
  st : Int
  kd : Int
  tk : Int
  hd : Int
  ex : Int
  mc : ByteArray
instance : Inhabited Re := ⟨⟨0, 0, 0, 0, 0, 0, 0, ⟨#[]⟩⟩⟩
def E1 (w : World) (b o : Nat) (x : Re) : Prop := w.cell? ⟨b, o, none⟩ = some (.int .i64 x.nd) ∧ w.cell? ⟨b, o + 1, none⟩ = some (.int .i64 x.cl) ∧ w.cell? ⟨b, o + 2, none⟩ = some (.int .i64 x.st) ∧ w.cell? ⟨b, o + 3, none⟩ = some (.int .i64 x.kd) ∧ w.cell? ⟨b, o + 4, none⟩ = some (.int .i64 x.tk) ∧ w.cell? ⟨b, o + 5, none⟩ = some (.int .i64 x.hd) ∧ w.cell? ⟨b, o + 6, none⟩ = some (.int .i64 x.ex) ∧ w.cell? ⟨b, o + 7, none⟩ = some (.string x.mc)
/-- The slice v holds the things xs. -/
def Row (w : World) (v : Value) (xs : List Re) : Prop := RowG 8 E1 w v xs
def oneV (x : Re) : Value := .agg #[.int .i64 x.nd, .int .i64 x.cl, .int .i64 x.st, .int .i64 x.kd, .int .i64 x.tk, .int .i64 x.hd, .int .i64 x.ex, .string x.mc]
theorem stays1 : Stays E1 := fun _ _ b _ _ hb hlt ⟨h0, h1, h2, h3, h4, h5, h6, h7⟩ => ⟨(hb.cell (p := ⟨b, _, none⟩) hlt).trans h0, (hb.cell (p := ⟨b, _, none⟩) hlt).trans h1, (hb.cell (p := ⟨b, _, none⟩) hlt).trans h2, (hb.cell (p := ⟨b, _, none⟩) hlt).trans h3, (hb.cell (p := ⟨b, _, none⟩) hlt).trans h4, (hb.cell (p := ⟨b, _, none⟩) hlt).trans h5, (hb.cell (p := ⟨b, _, none⟩) hlt).trans h6, (hb.cell (p := ⟨b, _, none⟩) hlt).trans h7⟩
theorem Row.below {w w' : World} {v : Value} {xs : List Re} (h : Row w v xs) (hb : Below w.heap.size w w') : Row w' v xs := RowG.below stays1 h hb
/-- Its texts are no longer than n. -/
def Tz (n : Nat) (x : Re) : Prop := x.mc.size ≤ n
theorem two {w w1 : World} {o0 o1 : Obj} (b : Below ((w.alloc o0).alloc o1).heap.size ((w.alloc o0).alloc o1) w1) :
    w1.heap[w.heap.size]? = some o0 ∧ w1.heap[w.heap.size + 1]? = some o1 ∧ Below w.heap.size w w1 := by
  have e1 : (w.alloc o0).heap.size = w.heap.size + 1 := by simp
  refine ⟨?_, ?_, ((bel_new w o0).trans ((bel_new _ o1).mono (by simp))).trans (b.mono (by simp; omega))⟩
  · rw [b.block _ (by simp; omega), ← heap_alloc_new w o0]; exact (bel_new _ o1).block _ (by simp)
  · rw [b.block _ (by simp), ← e1]; exact heap_alloc_new _ _
set_option maxRecDepth 100000 in
set_option maxHeartbeats 1600000 in
theorem toA_any (k t h e0 : Int) (w : World) :
    Calls Tryz.prog 22 #[.agg #[.int .i64 k, .int .i64 t, .int .i64 h, .int .i64 e0]] w fun e w' => e = .returned (.agg #[.int .i64 k, .int .i64 t, .int .i64 h, .int .i64 e0]) ∧ Below w.heap.size w w' := by
  go_enter Tryz.func22, Tryz.ntmps22
  go_wp2_with fail
  refine bodyPost_ret (v := .agg #[.int .i64 k, .int .i64 t, .int .i64 h, .int .i64 e0]) (by simp [results, Tryz.results22, go_sem]) rfl ⟨rfl, ?_⟩
  exact (((Below.refl _ _).alloc (Nat.le_refl _) _).alloc (by simp) _).alloc (by simp; omega) _
set_option maxRecDepth 100000 in
set_option maxHeartbeats 1600000 in
theorem eqA_same (k t h e0 : Int) (w : World) :
    Calls Tryz.prog 46 #[.agg #[.int .i64 k, .int .i64 t, .int .i64 h, .int .i64 e0], .agg #[.int .i64 k, .int .i64 t, .int .i64 h, .int .i64 e0]] w fun e w' => e = .returned (.bool true) ∧ Below w.heap.size w w' := by
  have q0 : (k != k) = false := by simp
  have q1 : (t != t) = false := by simp
  have q2 : (h != h) = false := by simp
  have q3 : (e0 != e0) = false := by simp
  go_enter Tryz.func46, Tryz.ntmps46
  go_wp2_with fail
  go_ret
  exact ⟨rfl, ((Below.refl _ _).alloc (Nat.le_refl _) _).alloc (by simp) _⟩
set_option maxRecDepth 100000 in
set_option maxHeartbeats 800000 in
theorem sz1_any (x : Re) (l : Nat) (w : World) (hl : l ≤ 1048576) (hz : Tz maxLen x) :
    Calls Tryz.prog 5 #[oneV x, .int .i64 l] w fun e w' => (∃ r : Int, e = .returned (.int .i64 r) ∧ (r = -1 ∨ ∃ q : Nat, r = q ∧ q ≤ l ∧ Tz l x)) ∧ Below w.heap.size w w' := by
  unfold Tz maxLen at hz
  have z0 := hz
  unfold oneV
  by_cases g0 : (l : Int) < (x.mc.size : Int)
  · go_enter Tryz.func5, Tryz.ntmps5
    go_wp2_with fail
    go_ret
    exact ⟨⟨_, rfl, .inl rfl⟩, bel_new _ _⟩
  go_enter Tryz.func5, Tryz.ntmps5
  go_wp2_with fail
  go_ret
  refine ⟨⟨_, rfl, .inr ⟨l - (x.mc.size), by omega, by omega, ?_⟩⟩, bel_new _ _⟩
  unfold Tz
  omega
set_option maxRecDepth 100000 in
set_option maxHeartbeats 800000 in
theorem szS_any (v : Value) (xs : List Re) (l : Nat) (w : World) (h : Row w v xs) (hm : ∀ x ∈ xs, Tz maxLen x) (hz : xs.length ≤ maxLen) (hl : l ≤ 1048576) :
    Calls Tryz.prog 14 #[v, .int .i64 l] w fun e w' => (∃ r : Int, e = .returned (.int .i64 r) ∧ (r = -1 ∨ ∃ q : Nat, r = q ∧ q ≤ 1048576 ∧ xs.length ≤ 1048576 ∧ ∀ x ∈ xs, Tz 1048576 x)) ∧ Below w.heap.size w w' := by
  have hz2 : xs.length ≤ 9223372036854775807 := by unfold maxLen at hz; omega
  have HM : Hid (∀ x ∈ xs, Tz maxLen x) := hm
  have HR : Hid (Row w v xs) := h
  obtain ⟨a, cap, rfl⟩ := RowG.slice h
  clear hz hm h
  by_cases hb : (l : Int) < (xs.length : Int)
  · have hb' : (l : Int) - (xs.length : Int) < 0 := by omega
    go_enter Tryz.func14, Tryz.ntmps14
    go_wp2_with fail
    go_ret
    exact ⟨⟨_, rfl, .inl rfl⟩, Below.refl _ _⟩
  have hb' : ¬ (l : Int) - (xs.length : Int) < 0 := by omega
  go_enter Tryz.func14, Tryz.ntmps14
  go_wp2_with fail
  go_loopw [1, 5] (fun l0 i wr => ∃ (k q : Nat), k ≤ xs.length ∧ i = .int .i64 k ∧ l0 = .int .i64 q ∧ q ≤ 1048576 ∧ Hid (∀ j x, j < k → xs[j]? = some x → Tz 1048576 x) ∧ Hid (Below w.heap.size w wr)) (fun _ i _ => xs.length - (intOf i).toNat)
  case atStart => exact ⟨0, l - xs.length, by omega, rfl, by congr 1; omega, by omega, fun j x hj => by omega, Below.refl _ _⟩
  case round =>
    obtain ⟨k, q, hk, rfl, rfl, hq, HJ, HB⟩ := hrel
    by_cases hlt : k < xs.length
    · obtain ⟨x, hx⟩ := Rg.get_at hlt
      obtain ⟨b, off, rfl, hbl, c0, c1, c2, c3, c4, c5, c6, c7⟩ := RowG.at (HR.out.below HB.out) rfl hx
      have HK : Hid (xs[k]? = some x) := hx
      have HMk : Hid (Tz maxLen x) := HM.out _ (mem_at hx)
      clear hx
      go_wp2_with fail
      refine (sz1_any x q wr hq HMk.out).mono ?_
      rintro e w2 ⟨⟨r, rfl, hr⟩, b2⟩
      have HB2 : Hid (Below w.heap.size w w2) := HB.out.trans (b2.mono HB.out.size)
      clear b2
      rcases hr with rfl | ⟨p, rfl, hp, hs⟩
      · go_wp2_with fail
        go_ret
        exact ⟨⟨_, rfl, .inl rfl⟩, HB2.out⟩
      · have HJ2 : Hid (∀ j y, j < k + 1 → xs[j]? = some y → Tz 1048576 y) := fun j y hj hy => by
          by_cases e : j = k
          · subst e
            rw [HK.out] at hy
            cases hy
            unfold Tz at hs ⊢
            omega
          · exact HJ.out j y (by omega) hy
        have hp0 : ¬ (p : Int) < 0 := by omega
        clear hs
        go_wp2_with fail
        exact ⟨⟨k + 1, p, by omega, by go_num, rfl, by omega, HJ2, HB2⟩, by simp [intOf]; omega⟩
    · obtain rfl : k = xs.length := by omega
      go_wp2_with fail
      go_ret
      refine ⟨⟨_, rfl, .inr ⟨q, rfl, hq, by omega, fun x hx => ?_⟩⟩, HB.out⟩
      obtain ⟨j, hj, e⟩ := List.mem_iff_getElem.1 hx
      exact HJ.out j x hj (by rw [List.getElem?_eq_getElem hj, e])
set_option maxRecDepth 100000 in
set_option maxHeartbeats 1600000 in
theorem to1_any (x : Re) (w : World) :
    Calls Tryz.prog 8 #[oneV x] w fun e w' => e = .returned (oneV x) ∧ Below w.heap.size w w' := by
  unfold oneV
  go_enter Tryz.func8, Tryz.ntmps8
  go_wp2_with fail
  refine (toA_any x.kd x.tk x.hd x.ex _).mono ?_
  rintro e w1 ⟨rfl, b1⟩
  obtain ⟨k0, k1, k2, kS, kB⟩ := three b1
  have K0 : Hid (w1.heap[w.heap.size]? = some (.cells #[.int .i64 x.nd, .int .i64 x.cl, .int .i64 x.st, .int .i64 x.kd, .int .i64 x.tk, .int .i64 x.hd, .int .i64 x.ex, .string x.mc] 31)) := k0
  have K1 : Hid (w1.heap[w.heap.size + 1]? = some (.cells #[.int .i64 0, .int .i64 0, .int .i64 0, .int .i64 0, .int .i64 0, .int .i64 0, .int .i64 0, .string ⟨#[]⟩] 44 (0, 0))) := k1
  have K2 : Hid (w1.heap[w.heap.size + 1 + 1]? = some (.cells #[.int .i64 x.nd, .int .i64 x.cl, .int .i64 x.st, .int .i64 0, .int .i64 0, .int .i64 0, .int .i64 0, .string ⟨#[]⟩] 44 (0, 0))) := k2
  have KB : Hid (Below w.heap.size w w1) := kB
  have HN : Hid (w.heap.size ≠ w.heap.size + 1 + 1 ∧ w.heap.size + 1 ≠ w.heap.size + 1 + 1) := ⟨by omega, by omega⟩
  clear b1 k0 k1 k2 kB kS
  obtain ⟨s0, t0⟩ := blk_cell K2.out 3 (x := .int .i64 0) rfl
  obtain ⟨s1, t1⟩ := blk_cell K2.out 4 (x := .int .i64 0) rfl
  obtain ⟨s2, t2⟩ := blk_cell K2.out 5 (x := .int .i64 0) rfl
  obtain ⟨s3, t3⟩ := blk_cell K2.out 6 (x := .int .i64 0) rfl
  have B2 : Hid (((((w1.setCell ⟨w.heap.size + 1 + 1, 3, none⟩ (.int .i64 x.kd)).setCell ⟨w.heap.size + 1 + 1, 4, none⟩ (.int .i64 x.tk)).setCell ⟨w.heap.size + 1 + 1, 5, none⟩ (.int .i64 x.hd)).setCell ⟨w.heap.size + 1 + 1, 6, none⟩ (.int .i64 x.ex)).heap[w.heap.size + 1 + 1]? = some (.cells #[.int .i64 x.nd, .int .i64 x.cl, .int .i64 x.st, .int .i64 x.kd, .int .i64 x.tk, .int .i64 x.hd, .int .i64 x.ex, .string ⟨#[]⟩] 44 (0, 0))) := (blk_set (blk_set (blk_set (blk_set K2.out _ _) _ _) _ _) _ _)
  have A2 : Hid (((((w1.setCell ⟨w.heap.size + 1 + 1, 3, none⟩ (.int .i64 x.kd)).setCell ⟨w.heap.size + 1 + 1, 4, none⟩ (.int .i64 x.tk)).setCell ⟨w.heap.size + 1 + 1, 5, none⟩ (.int .i64 x.hd)).setCell ⟨w.heap.size + 1 + 1, 6, none⟩ (.int .i64 x.ex)).heap[w.heap.size + 1]? = some (.cells #[.int .i64 0, .int .i64 0, .int .i64 0, .int .i64 0, .int .i64 0, .int .i64 0, .int .i64 0, .string ⟨#[]⟩] 44 (0, 0))) := ((blk_far HN.out.2 _ _).trans ((blk_far HN.out.2 _ _).trans ((blk_far HN.out.2 _ _).trans ((blk_far HN.out.2 _ _).trans K1.out))))
  have C2 : Hid (((((w1.setCell ⟨w.heap.size + 1 + 1, 3, none⟩ (.int .i64 x.kd)).setCell ⟨w.heap.size + 1 + 1, 4, none⟩ (.int .i64 x.tk)).setCell ⟨w.heap.size + 1 + 1, 5, none⟩ (.int .i64 x.hd)).setCell ⟨w.heap.size + 1 + 1, 6, none⟩ (.int .i64 x.ex)).heap[w.heap.size]? = some (.cells #[.int .i64 x.nd, .int .i64 x.cl, .int .i64 x.st, .int .i64 x.kd, .int .i64 x.tk, .int .i64 x.hd, .int .i64 x.ex, .string x.mc] 31 (0, 0))) := ((blk_far HN.out.1 _ _).trans ((blk_far HN.out.1 _ _).trans ((blk_far HN.out.1 _ _).trans ((blk_far HN.out.1 _ _).trans K0.out))))
  have G2 : Hid (Below w.heap.size w ((((w1.setCell ⟨w.heap.size + 1 + 1, 3, none⟩ (.int .i64 x.kd)).setCell ⟨w.heap.size + 1 + 1, 4, none⟩ (.int .i64 x.tk)).setCell ⟨w.heap.size + 1 + 1, 5, none⟩ (.int .i64 x.hd)).setCell ⟨w.heap.size + 1 + 1, 6, none⟩ (.int .i64 x.ex))) := (Below.setCell (Below.setCell (Below.setCell (Below.setCell KB.out (p := ⟨w.heap.size + 1 + 1, 3, none⟩) (by first | omega | (simp; done) | (simp; omega)) (.int .i64 x.kd)) (p := ⟨w.heap.size + 1 + 1, 4, none⟩) (by first | omega | (simp; done) | (simp; omega)) (.int .i64 x.tk)) (p := ⟨w.heap.size + 1 + 1, 5, none⟩) (by first | omega | (simp; done) | (simp; omega)) (.int .i64 x.hd)) (p := ⟨w.heap.size + 1 + 1, 6, none⟩) (by first | omega | (simp; done) | (simp; omega)) (.int .i64 x.ex))
  clear K0 K1 K2
  go_upto_region 6 with fail
  generalize ((((w1.setCell ⟨w.heap.size + 1 + 1, 3, none⟩ (.int .i64 x.kd)).setCell ⟨w.heap.size + 1 + 1, 4, none⟩ (.int .i64 x.tk)).setCell ⟨w.heap.size + 1 + 1, 5, none⟩ (.int .i64 x.hd)).setCell ⟨w.heap.size + 1 + 1, 6, none⟩ (.int .i64 x.ex)) = v5 at B2 A2 C2 G2 ⊢
  clear s0 t0 s1 t1 s2 t2 s3 t3
  have p0 := (blk_cell C2.out 7 (x := .string x.mc) rfl).1
  obtain ⟨s4, t4⟩ := blk_cell B2.out 7 (x := .string ⟨#[]⟩) rfl
  have B3 : Hid ((v5.setCell ⟨w.heap.size + 1 + 1, 7, none⟩ (.string x.mc)).heap[w.heap.size + 1 + 1]? = some (.cells #[.int .i64 x.nd, .int .i64 x.cl, .int .i64 x.st, .int .i64 x.kd, .int .i64 x.tk, .int .i64 x.hd, .int .i64 x.ex, .string x.mc] 44 (0, 0))) := blk_set B2.out _ _
  have A3 : Hid ((v5.setCell ⟨w.heap.size + 1 + 1, 7, none⟩ (.string x.mc)).heap[w.heap.size + 1]? = some (.cells #[.int .i64 0, .int .i64 0, .int .i64 0, .int .i64 0, .int .i64 0, .int .i64 0, .int .i64 0, .string ⟨#[]⟩] 44 (0, 0))) := (blk_far HN.out.2 _ _).trans A2.out
  have G3 : Hid (Below w.heap.size w (v5.setCell ⟨w.heap.size + 1 + 1, 7, none⟩ (.string x.mc))) := Below.setCell G2.out (p := ⟨w.heap.size + 1 + 1, 7, none⟩) (by first | omega | (simp; done) | (simp; omega)) (.string x.mc)
  clear B2 A2 C2 G2
  go_upto_region 7 with fail
  generalize (v5.setCell ⟨w.heap.size + 1 + 1, 7, none⟩ (.string x.mc)) = w9 at B3 A3 G3 ⊢
  clear p0 s4 t4
  have p0 := (blk_cell B3.out 0 (x := .int .i64 x.nd) rfl).1
  have p1 := (blk_cell B3.out 1 (x := .int .i64 x.cl) rfl).1
  have p2 := (blk_cell B3.out 2 (x := .int .i64 x.st) rfl).1
  have p3 := (blk_cell B3.out 3 (x := .int .i64 x.kd) rfl).1
  have p4 := (blk_cell B3.out 4 (x := .int .i64 x.tk) rfl).1
  have p5 := (blk_cell B3.out 5 (x := .int .i64 x.hd) rfl).1
  have p6 := (blk_cell B3.out 6 (x := .int .i64 x.ex) rfl).1
  have p7 := (blk_cell B3.out 7 (x := .string x.mc) rfl).1
  obtain ⟨m0, n0⟩ := blk_cell A3.out 0 (x := .int .i64 0) rfl
  obtain ⟨m1, n1⟩ := blk_cell A3.out 1 (x := .int .i64 0) rfl
  obtain ⟨m2, n2⟩ := blk_cell A3.out 2 (x := .int .i64 0) rfl
  obtain ⟨m3, n3⟩ := blk_cell A3.out 3 (x := .int .i64 0) rfl
  obtain ⟨m4, n4⟩ := blk_cell A3.out 4 (x := .int .i64 0) rfl
  obtain ⟨m5, n5⟩ := blk_cell A3.out 5 (x := .int .i64 0) rfl
  obtain ⟨m6, n6⟩ := blk_cell A3.out 6 (x := .int .i64 0) rfl
  obtain ⟨m7, n7⟩ := blk_cell A3.out 7 (x := .string ⟨#[]⟩) rfl
  have AF : ((((((((w9.setCell ⟨w.heap.size + 1, 0, none⟩ (.int .i64 x.nd)).setCell ⟨w.heap.size + 1, 1, none⟩ (.int .i64 x.cl)).setCell ⟨w.heap.size + 1, 2, none⟩ (.int .i64 x.st)).setCell ⟨w.heap.size + 1, 3, none⟩ (.int .i64 x.kd)).setCell ⟨w.heap.size + 1, 4, none⟩ (.int .i64 x.tk)).setCell ⟨w.heap.size + 1, 5, none⟩ (.int .i64 x.hd)).setCell ⟨w.heap.size + 1, 6, none⟩ (.int .i64 x.ex)).setCell ⟨w.heap.size + 1, 7, none⟩ (.string x.mc)).heap[w.heap.size + 1]? = some (.cells #[.int .i64 x.nd, .int .i64 x.cl, .int .i64 x.st, .int .i64 x.kd, .int .i64 x.tk, .int .i64 x.hd, .int .i64 x.ex, .string x.mc] 44 (0, 0)) := (blk_set (blk_set (blk_set (blk_set (blk_set (blk_set (blk_set (blk_set A3.out _ _) _ _) _ _) _ _) _ _) _ _) _ _) _ _)
  have GF : Below w.heap.size w ((((((((w9.setCell ⟨w.heap.size + 1, 0, none⟩ (.int .i64 x.nd)).setCell ⟨w.heap.size + 1, 1, none⟩ (.int .i64 x.cl)).setCell ⟨w.heap.size + 1, 2, none⟩ (.int .i64 x.st)).setCell ⟨w.heap.size + 1, 3, none⟩ (.int .i64 x.kd)).setCell ⟨w.heap.size + 1, 4, none⟩ (.int .i64 x.tk)).setCell ⟨w.heap.size + 1, 5, none⟩ (.int .i64 x.hd)).setCell ⟨w.heap.size + 1, 6, none⟩ (.int .i64 x.ex)).setCell ⟨w.heap.size + 1, 7, none⟩ (.string x.mc)) := (Below.setCell (Below.setCell (Below.setCell (Below.setCell (Below.setCell (Below.setCell (Below.setCell (Below.setCell G3.out (p := ⟨w.heap.size + 1, 0, none⟩) (by first | omega | (simp; done) | (simp; omega)) (.int .i64 x.nd)) (p := ⟨w.heap.size + 1, 1, none⟩) (by first | omega | (simp; done) | (simp; omega)) (.int .i64 x.cl)) (p := ⟨w.heap.size + 1, 2, none⟩) (by first | omega | (simp; done) | (simp; omega)) (.int .i64 x.st)) (p := ⟨w.heap.size + 1, 3, none⟩) (by first | omega | (simp; done) | (simp; omega)) (.int .i64 x.kd)) (p := ⟨w.heap.size + 1, 4, none⟩) (by first | omega | (simp; done) | (simp; omega)) (.int .i64 x.tk)) (p := ⟨w.heap.size + 1, 5, none⟩) (by first | omega | (simp; done) | (simp; omega)) (.int .i64 x.hd)) (p := ⟨w.heap.size + 1, 6, none⟩) (by first | omega | (simp; done) | (simp; omega)) (.int .i64 x.ex)) (p := ⟨w.heap.size + 1, 7, none⟩) (by first | omega | (simp; done) | (simp; omega)) (.string x.mc))
  go_wp2_with fail
  generalize ((((((((w9.setCell ⟨w.heap.size + 1, 0, none⟩ (.int .i64 x.nd)).setCell ⟨w.heap.size + 1, 1, none⟩ (.int .i64 x.cl)).setCell ⟨w.heap.size + 1, 2, none⟩ (.int .i64 x.st)).setCell ⟨w.heap.size + 1, 3, none⟩ (.int .i64 x.kd)).setCell ⟨w.heap.size + 1, 4, none⟩ (.int .i64 x.tk)).setCell ⟨w.heap.size + 1, 5, none⟩ (.int .i64 x.hd)).setCell ⟨w.heap.size + 1, 6, none⟩ (.int .i64 x.ex)).setCell ⟨w.heap.size + 1, 7, none⟩ (.string x.mc)) = wf at AF GF ⊢
  have d0 := (blk_cell AF 0 (x := .int .i64 x.nd) rfl).1
  have d1 := (blk_cell AF 1 (x := .int .i64 x.cl) rfl).1
  have d2 := (blk_cell AF 2 (x := .int .i64 x.st) rfl).1
  have d3 := (blk_cell AF 3 (x := .int .i64 x.kd) rfl).1
  have d4 := (blk_cell AF 4 (x := .int .i64 x.tk) rfl).1
  have d5 := (blk_cell AF 5 (x := .int .i64 x.hd) rfl).1
  have d6 := (blk_cell AF 6 (x := .int .i64 x.ex) rfl).1
  have d7 := (blk_cell AF 7 (x := .string x.mc) rfl).1
  exact bodyPost_ret (v := .agg #[.int .i64 x.nd, .int .i64 x.cl, .int .i64 x.st, .int .i64 x.kd, .int .i64 x.tk, .int .i64 x.hd, .int .i64 x.ex, .string x.mc]) (by simp [results, Tryz.results8, go_sem, d0, d1, d2, d3, d4, d5, d6, d7]) rfl ⟨rfl, GF⟩
theorem info1 : (Tryz.prog.info? 44).map (fun i => (i.zero, i.size, i.bytes)) = some (some (.agg #[.int .i64 0, .int .i64 0, .int .i64 0, .int .i64 0, .int .i64 0, .int .i64 0, .int .i64 0, .string ⟨#[]⟩]), 8, 72) := by kernel_rfl
/-- The copy: its first k are written. -/
def Cop (xs : List Re) (k : Nat) (A : Array Value) : Prop := A.size = xs.length * 8 ∧ ∀ j x, j < k → xs[j]? = some x → A[j * 8]? = some (.int .i64 x.nd) ∧ A[j * 8 + 1]? = some (.int .i64 x.cl) ∧ A[j * 8 + 2]? = some (.int .i64 x.st) ∧ A[j * 8 + 3]? = some (.int .i64 x.kd) ∧ A[j * 8 + 4]? = some (.int .i64 x.tk) ∧ A[j * 8 + 5]? = some (.int .i64 x.hd) ∧ A[j * 8 + 6]? = some (.int .i64 x.ex) ∧ A[j * 8 + 7]? = some (.string x.mc)
theorem cop1 {xs : List Re} {k : Nat} {A : Array Value} {x : Re} (h : Cop xs k A) (hx : xs[k]? = some x) :
    Cop xs (k + 1) (((((((((A).setIfInBounds (k * 8) (.int .i64 x.nd)).setIfInBounds (k * 8 + 1) (.int .i64 x.cl)).setIfInBounds (k * 8 + 2) (.int .i64 x.st)).setIfInBounds (k * 8 + 3) (.int .i64 x.kd)).setIfInBounds (k * 8 + 4) (.int .i64 x.tk)).setIfInBounds (k * 8 + 5) (.int .i64 x.hd)).setIfInBounds (k * 8 + 6) (.int .i64 x.ex)).setIfInBounds (k * 8 + 7) (.string x.mc)) := by
  have hk := lt_at hx
  have hs := h.1
  refine ⟨by simpa using h.1, fun j y hj hy => ?_⟩
  simp only [Array.getElem?_setIfInBounds, Array.size_setIfInBounds]
  by_cases e : j = k
  · subst e
    rw [hx] at hy
    cases hy
    refine ⟨?_, ?_, ?_, ?_, ?_, ?_, ?_, ?_⟩
    all_goals (repeat' (first | rw [if_pos rfl, if_pos (by omega)] | rw [if_neg (by omega)]))
  · obtain ⟨h0, h1, h2, h3, h4, h5, h6, h7⟩ := h.2 j y (by omega) hy
    refine ⟨?_, ?_, ?_, ?_, ?_, ?_, ?_, ?_⟩
    all_goals (repeat' rw [if_neg (by omega)])
    all_goals assumption
set_option maxRecDepth 100000 in
set_option maxHeartbeats 800000 in
theorem toS_any (v : Value) (xs : List Re) (w : World) (h : Row w v xs) (hl : xs.length ≤ 1048576) :
    Calls Tryz.prog 20 #[v] w fun e w' => ∃ g, e = .returned (.slice (some ⟨g, 0, none⟩) xs.length xs.length) ∧ w.heap.size ≤ g ∧ g < w'.heap.size ∧ (∀ i x, xs[i]? = some x → E1 w' g (i * 8) x) ∧ Below w.heap.size w w' ∧ Wr w' g (xs.length * 8) := by
  have HR : Hid (Row w v xs) := h
  obtain ⟨a, cap, rfl⟩ := RowG.slice h
  clear h
  obtain ⟨i0, hi, hz0, hz1, hz2⟩ := info_parts info1
  have hmk := run_make (P := Tryz.prog) w 35 44 i0 (.agg #[.int .i64 0, .int .i64 0, .int .i64 0, .int .i64 0, .int .i64 0, .int .i64 0, .int .i64 0, .string ⟨#[]⟩]) Tryz.underlying35 hi hz0 .i64 .i64 (xs.length : Int) (xs.length : Int) (by omega) (by omega) (by rw [hz2]; omega) (by omega)
  have hA0 : Cop xs 0 (madeCells (Value.agg #[.int .i64 0, .int .i64 0, .int .i64 0, .int .i64 0, .int .i64 0, .int .i64 0, .int .i64 0, .string ⟨#[]⟩]).cells ((xs.length : Int).toNat * i0.size)) := ⟨by rw [hz1]; simp [madeCells, Value.cells], fun j x hj => absurd hj (by omega)⟩
  generalize madeCells (Value.agg #[.int .i64 0, .int .i64 0, .int .i64 0, .int .i64 0, .int .i64 0, .int .i64 0, .int .i64 0, .string ⟨#[]⟩]).cells ((xs.length : Int).toNat * i0.size) = A0 at hmk hA0
  rw [Int.toNat_natCast] at hmk
  go_enter Tryz.func20, Tryz.ntmps20
  go_wp2_with fail
  clear hmk
  go_loopw [4] (fun i wr => ∃ k : Nat, ∃ A : Array Value, k ≤ xs.length ∧ i = .int .i64 k ∧ Hid (wr.heap[w.heap.size]? = some (.cells A 44 (0, 0)) ∧ Cop xs k A ∧ Below w.heap.size w wr)) (fun i _ => xs.length - (intOf i).toNat)
  case atStart => exact ⟨0, A0, by omega, rfl, ⟨heap_alloc_new w _, hA0, bel_new _ _⟩⟩
  case round =>
    clear hA0
    obtain ⟨k, A, hk, rfl, HA⟩ := hrel
    by_cases hlt : k < xs.length
    · obtain ⟨x, hx⟩ := Rg.get_at hlt
      obtain ⟨b, off, rfl, hbl, c0, c1, c2, c3, c4, c5, c6, c7⟩ := RowG.at (HR.out.below HA.out.2.2) rfl hx
      have HX : Hid (xs[k]? = some x) := hx
      clear hx
      go_wp2_with fail
      refine (to1_any x wr).mono ?_
      rintro e w2 ⟨rfl, b2⟩
      have hg := (Array.getElem?_eq_some_iff.1 HA.out.1).1
      have HA2 : Hid (w2.heap[w.heap.size]? = some (.cells A 44 (0, 0)) ∧ Cop xs k A ∧ Below w.heap.size w w2) := ⟨(b2.block _ hg).trans HA.out.1, HA.out.2.1, HA.out.2.2.trans (b2.mono HA.out.2.2.size)⟩
      clear b2 c0 c1 c2 c3 c4 c5 c6 c7 HA
      have hsz : k * 8 + 7 < A.size := by rw [HA2.out.2.1.1]; omega
      obtain ⟨d0, f0⟩ := blk_cell HA2.out.1 (k * 8) (x := A[k * 8]) (Array.getElem?_eq_getElem (by omega))
      obtain ⟨d1, f1⟩ := blk_cell HA2.out.1 (k * 8 + 1) (x := A[k * 8 + 1]) (Array.getElem?_eq_getElem (by omega))
      obtain ⟨d2, f2⟩ := blk_cell HA2.out.1 (k * 8 + 2) (x := A[k * 8 + 2]) (Array.getElem?_eq_getElem (by omega))
      obtain ⟨d3, f3⟩ := blk_cell HA2.out.1 (k * 8 + 3) (x := A[k * 8 + 3]) (Array.getElem?_eq_getElem (by omega))
      obtain ⟨d4, f4⟩ := blk_cell HA2.out.1 (k * 8 + 4) (x := A[k * 8 + 4]) (Array.getElem?_eq_getElem (by omega))
      obtain ⟨d5, f5⟩ := blk_cell HA2.out.1 (k * 8 + 5) (x := A[k * 8 + 5]) (Array.getElem?_eq_getElem (by omega))
      obtain ⟨d6, f6⟩ := blk_cell HA2.out.1 (k * 8 + 6) (x := A[k * 8 + 6]) (Array.getElem?_eq_getElem (by omega))
      obtain ⟨d7, f7⟩ := blk_cell HA2.out.1 (k * 8 + 7) (x := A[k * 8 + 7]) (Array.getElem?_eq_getElem (by omega))
      unfold oneV
      go_wp2_with fail
      refine ⟨⟨k + 1, ((((((((A).setIfInBounds (k * 8) (.int .i64 x.nd)).setIfInBounds (k * 8 + 1) (.int .i64 x.cl)).setIfInBounds (k * 8 + 2) (.int .i64 x.st)).setIfInBounds (k * 8 + 3) (.int .i64 x.kd)).setIfInBounds (k * 8 + 4) (.int .i64 x.tk)).setIfInBounds (k * 8 + 5) (.int .i64 x.hd)).setIfInBounds (k * 8 + 6) (.int .i64 x.ex)).setIfInBounds (k * 8 + 7) (.string x.mc), by omega, by go_num, ⟨(blk_set (blk_set (blk_set (blk_set (blk_set (blk_set (blk_set (blk_set HA2.out.1 _ _) _ _) _ _) _ _) _ _) _ _) _ _) _ _), cop1 HA2.out.2.1 HX.out, ?_⟩⟩, by simp [intOf]; omega⟩
      exact (Below.setCell (Below.setCell (Below.setCell (Below.setCell (Below.setCell (Below.setCell (Below.setCell (Below.setCell HA2.out.2.2 (p := ⟨w.heap.size, k * 8, none⟩) (Nat.le_refl _) (.int .i64 x.nd)) (p := ⟨w.heap.size, k * 8 + 1, none⟩) (Nat.le_refl _) (.int .i64 x.cl)) (p := ⟨w.heap.size, k * 8 + 2, none⟩) (Nat.le_refl _) (.int .i64 x.st)) (p := ⟨w.heap.size, k * 8 + 3, none⟩) (Nat.le_refl _) (.int .i64 x.kd)) (p := ⟨w.heap.size, k * 8 + 4, none⟩) (Nat.le_refl _) (.int .i64 x.tk)) (p := ⟨w.heap.size, k * 8 + 5, none⟩) (Nat.le_refl _) (.int .i64 x.hd)) (p := ⟨w.heap.size, k * 8 + 6, none⟩) (Nat.le_refl _) (.int .i64 x.ex)) (p := ⟨w.heap.size, k * 8 + 7, none⟩) (Nat.le_refl _) (.string x.mc))
    · obtain rfl : k = xs.length := by omega
      go_wp2_with fail
      go_ret
      refine ⟨w.heap.size, rfl, Nat.le_refl _, (Array.getElem?_eq_some_iff.1 HA.out.1).1, fun i x hi => ?_, HA.out.2.2, ⟨A, _, HA.out.1, Nat.le_of_eq HA.out.2.1.1.symm⟩⟩
      obtain ⟨e0, e1, e2, e3, e4, e5, e6, e7⟩ := HA.out.2.1.2 i x (lt_at hi) hi
      exact ⟨(Joins.cell_of_block HA.out.1 _).trans e0, (Joins.cell_of_block HA.out.1 _).trans e1, (Joins.cell_of_block HA.out.1 _).trans e2, (Joins.cell_of_block HA.out.1 _).trans e3, (Joins.cell_of_block HA.out.1 _).trans e4, (Joins.cell_of_block HA.out.1 _).trans e5, (Joins.cell_of_block HA.out.1 _).trans e6, (Joins.cell_of_block HA.out.1 _).trans e7⟩
theorem toS_row {w' : World} {g : Nat} {xs : List Re} (hg : g < w'.heap.size) (h : ∀ i x, xs[i]? = some x → E1 w' g (i * 8) x) : Row w' (.slice (some ⟨g, 0, none⟩) xs.length xs.length) xs :=
  ⟨_, _, rfl, .inr ⟨g, 0, rfl, Nat.le_refl _, hg, fun i x hi => by rw [Nat.zero_add]; exact h i x hi⟩⟩
set_option maxRecDepth 100000 in
set_option maxHeartbeats 1600000 in
theorem eq1_same (x : Re) (w : World) :
    Calls Tryz.prog 45 #[oneV x, oneV x] w fun e w' => e = .returned (.bool true) ∧ Below w.heap.size w w' := by
  unfold oneV
  have q0 : (x.nd != x.nd) = false := by simp
  have q1 : (x.cl != x.cl) = false := by simp
  have q2 : (x.st != x.st) = false := by simp
  have q3 : (x.mc.toList != x.mc.toList) = false := by simp
  have r3 : (x.mc.toList == x.mc.toList) = true := by simp
  go_enter Tryz.func45, Tryz.ntmps45
  go_wp2_with fail
  refine (eqA_same x.kd x.tk x.hd x.ex _).mono ?_
  rintro e w1 ⟨rfl, b1⟩
  obtain ⟨k0, k1, g1⟩ := two b1
  have p0 := (blk_cell k0 7 (x := .string x.mc) rfl).1
  have p1 := (blk_cell k1 7 (x := .string x.mc) rfl).1
  clear b1 k0 k1
  go_wp2_with fail
  go_ret
  exact ⟨rfl, g1⟩
set_option maxRecDepth 100000 in
set_option maxHeartbeats 800000 in
theorem eqS_same (v u0 : Value) (xs : List Re) (w : World) (h : Row w v xs) (g : Row w u0 xs) (hl : xs.length ≤ 1048576) :
    Calls Tryz.prog 28 #[v, u0] w fun e w' => e = .returned (.bool true) ∧ Below w.heap.size w w' := by
  have HR : Hid (Row w v xs) := h
  have HG : Hid (Row w u0 xs) := g
  obtain ⟨a, cap, rfl⟩ := RowG.slice h
  obtain ⟨a', cap', rfl⟩ := RowG.slice g
  clear h g
  have hne : ((xs.length : Int) != (xs.length : Int)) = false := by simp
  go_enter Tryz.func28, Tryz.ntmps28
  go_wp2_with fail
  go_loopw [5] (fun i wr => ∃ k : Nat, k ≤ xs.length ∧ i = .int .i64 k ∧ Hid (Below w.heap.size w wr)) (fun i _ => xs.length - (intOf i).toNat)
  case atStart => exact ⟨0, by omega, rfl, Below.refl _ _⟩
  case round =>
    obtain ⟨k, hk, rfl, HB⟩ := hrel
    by_cases hlt : k < xs.length
    · obtain ⟨x, hx⟩ := Rg.get_at hlt
      obtain ⟨b, off, rfl, hb, c0, c1, c2, c3, c4, c5, c6, c7⟩ := RowG.at (HR.out.below HB.out) rfl hx
      obtain ⟨b', off', rfl, hb', d0, d1, d2, d3, d4, d5, d6, d7⟩ := RowG.at (HG.out.below HB.out) rfl hx
      have HK : Hid (xs[k]? = some x) := hx
      clear hx
      have hp0 : (0 : Int) ≤ (k : Int) := by omega
      have hp1 : (k : Int) < (xs.length : Int) := by omega
      go_upto_region 6 with fail
      obtain ⟨X, hX, W, QI0, QO0⟩ := Qc.klass wr
      have QI : Hid (∀ w', Below wr.heap.size wr w' → ∃ x, w' = W x) := QI0
      have QO : Hid (∀ x, Below wr.heap.size wr (W x)) := QO0
      clear QI0 QO0
      have y0 := Qc.cell_all QO.out c0
      have z0 := Qc.cell_all QO.out d0
      have y1 := Qc.cell_all QO.out c1
      have z1 := Qc.cell_all QO.out d1
      have y2 := Qc.cell_all QO.out c2
      have z2 := Qc.cell_all QO.out d2
      have y3 := Qc.cell_all QO.out c3
      have z3 := Qc.cell_all QO.out d3
      have y4 := Qc.cell_all QO.out c4
      have z4 := Qc.cell_all QO.out d4
      have y5 := Qc.cell_all QO.out c5
      have z5 := Qc.cell_all QO.out d5
      have y6 := Qc.cell_all QO.out c6
      have z6 := Qc.cell_all QO.out d6
      have y7 := Qc.cell_all QO.out c7
      have z7 := Qc.cell_all QO.out d7
      refine Qc.region_class (W := W) (by kernel_rfl) (by kernel_rfl) (QI.out _ Qc.from_drew) ?_
      repeat (go_big_quiet_step (first | (go_at_call 45; refine (eq1_same x _).mono ?_; rintro e w2 ⟨rfl, b2⟩; exact ⟨rfl, Qc.back QI.out QO.out b2⟩)))
      refine wpQuiet_nil ?_
      rintro _ ⟨xq, rfl⟩
      have G2 : Hid (Below w.heap.size w (W xq)) := HB.out.trans ((QO.out xq).mono HB.out.size)
      generalize W xq = wq at G2 ⊢
      go_wp2_with fail
      exact ⟨⟨k + 1, by omega, by go_num, G2⟩, by simp [intOf]; omega⟩
    · go_wp2_with fail
      go_ret
      exact ⟨rfl, HB.out⟩
set_option maxRecDepth 100000 in
set_option maxHeartbeats 1600000 in
theorem markS_any (g n cap : Nat) (a : Nat) (B C : Nat) (w : World) (h : Wr w g (n * 8)) (hB : B ≤ g) (hC : g < C) (hn : n ≤ 1048576) (ha : a ≤ 1000000000000) (ha0 : 0 < a) :
    Calls Tryz.prog 30 #[.slice (some ⟨g, 0, none⟩) n cap, .int .i64 a] w fun e w' => ∃ r : Nat, e = .returned (.int .i64 (r : Int)) ∧ r ≤ a + n * 8 ∧ 0 < r ∧ Mid B C w w' := by
  have H : Hid (Wr w g (n * 8)) := h
  clear h
  go_enter Tryz.func30, Tryz.ntmps30
  go_wp2_with fail
  go_loopw [1, 5] (fun k i wr => ∃ q r : Nat, q ≤ n ∧ k = .int .i64 (r : Int) ∧ 0 < r ∧ r ≤ a + q * 8 ∧ i = .int .i64 q ∧ Hid (Wr wr g (n * 8) ∧ Mid B C w wr)) (fun _ i _ => n - (intOf i).toNat)
  case atStart => exact ⟨0, a, by omega, rfl, ha0, by omega, rfl, H.out, Mid.refl _ _ _⟩
  case round =>
    obtain ⟨q, r, hq, rfl, hr0, hr, rfl, HA⟩ := hrel
    by_cases hlt : q < n
    · have hsz : q * 8 + 7 < n * 8 := by omega
      obtain ⟨⟨x0, c0⟩, f0⟩ := HA.out.1.cell (j := q * 8) (by omega)
      obtain ⟨⟨x1, c1⟩, f1⟩ := HA.out.1.cell (j := q * 8 + 1) (by omega)
      obtain ⟨⟨x2, c2⟩, f2⟩ := HA.out.1.cell (j := q * 8 + 2) (by omega)
      obtain ⟨⟨x3, c3⟩, f3⟩ := HA.out.1.cell (j := q * 8 + 3) (by omega)
      obtain ⟨⟨x4, c4⟩, f4⟩ := HA.out.1.cell (j := q * 8 + 4) (by omega)
      obtain ⟨⟨x5, c5⟩, f5⟩ := HA.out.1.cell (j := q * 8 + 5) (by omega)
      obtain ⟨⟨x6, c6⟩, f6⟩ := HA.out.1.cell (j := q * 8 + 6) (by omega)
      have HC : Hid (Wr (((((((wr.setCell ⟨g, q * 8, none⟩ (.int .i64 ((r : Int)))).setCell ⟨g, q * 8 + 1, none⟩ (.int .i64 ((r : Int) + 1))).setCell ⟨g, q * 8 + 2, none⟩ (.int .i64 ((r : Int) + 1 + 1))).setCell ⟨g, q * 8 + 3, none⟩ (.int .i64 ((r : Int) + 1 + 1 + 1))).setCell ⟨g, q * 8 + 4, none⟩ (.int .i64 ((r : Int) + 1 + 1 + 1 + 1))).setCell ⟨g, q * 8 + 5, none⟩ (.int .i64 ((r : Int) + 1 + 1 + 1 + 1 + 1))).setCell ⟨g, q * 8 + 6, none⟩ (.int .i64 ((r : Int) + 1 + 1 + 1 + 1 + 1 + 1))) g (n * 8) ∧ Mid B C w (((((((wr.setCell ⟨g, q * 8, none⟩ (.int .i64 ((r : Int)))).setCell ⟨g, q * 8 + 1, none⟩ (.int .i64 ((r : Int) + 1))).setCell ⟨g, q * 8 + 2, none⟩ (.int .i64 ((r : Int) + 1 + 1))).setCell ⟨g, q * 8 + 3, none⟩ (.int .i64 ((r : Int) + 1 + 1 + 1))).setCell ⟨g, q * 8 + 4, none⟩ (.int .i64 ((r : Int) + 1 + 1 + 1 + 1))).setCell ⟨g, q * 8 + 5, none⟩ (.int .i64 ((r : Int) + 1 + 1 + 1 + 1 + 1))).setCell ⟨g, q * 8 + 6, none⟩ (.int .i64 ((r : Int) + 1 + 1 + 1 + 1 + 1 + 1)))) := ⟨(((((((HA.out.1.set _ _ _).set _ _ _).set _ _ _).set _ _ _).set _ _ _).set _ _ _).set _ _ _), (((((((HA.out.2.trans (Mid.set hB hC _ _)).trans (Mid.set hB hC _ _)).trans (Mid.set hB hC _ _)).trans (Mid.set hB hC _ _)).trans (Mid.set hB hC _ _)).trans (Mid.set hB hC _ _)).trans (Mid.set hB hC _ _))⟩
      go_wp2_with fail
      generalize (((((((wr.setCell ⟨g, q * 8, none⟩ (.int .i64 ((r : Int)))).setCell ⟨g, q * 8 + 1, none⟩ (.int .i64 ((r : Int) + 1))).setCell ⟨g, q * 8 + 2, none⟩ (.int .i64 ((r : Int) + 1 + 1))).setCell ⟨g, q * 8 + 3, none⟩ (.int .i64 ((r : Int) + 1 + 1 + 1))).setCell ⟨g, q * 8 + 4, none⟩ (.int .i64 ((r : Int) + 1 + 1 + 1 + 1))).setCell ⟨g, q * 8 + 5, none⟩ (.int .i64 ((r : Int) + 1 + 1 + 1 + 1 + 1))).setCell ⟨g, q * 8 + 6, none⟩ (.int .i64 ((r : Int) + 1 + 1 + 1 + 1 + 1 + 1))) = v0 at HC ⊢
      clear HA c0 f0 c1 f1 c2 f2 c3 f3 c4 f4 c5 f5 c6 f6
      obtain ⟨r0, HR0⟩ : ∃ r0 : Nat, Hid (r + 7 = r0) := ⟨_, rfl⟩
      have ER : Hid ((r : Int) + 1 + 1 + 1 + 1 + 1 + 1 + 1 = (r0 : Int)) := by show _ = _; have := HR0.out; omega
      rw [ER.out]
      have l0 : 0 < r0 ∧ r0 ≤ a + q * 8 + 7 := by have := HR0.out; omega
      refine (markText_any r0 v0 l0.1 (by omega)).mono ?_
      rintro e u0 ⟨rfl, b0⟩
      have HD0 : Hid (Wr u0 g (n * 8) ∧ Mid B C w u0) := ⟨HC.out.1.below b0, HC.out.2.trans (Mid.of_below b0)⟩
      generalize mtext r0 = mt0
      obtain ⟨⟨y0, d0⟩, g0⟩ := HD0.out.1.cell (j := q * 8 + 7) (by omega)
      have HE : Hid (Wr (u0.setCell ⟨g, q * 8 + 7, none⟩ (.string mt0)) g (n * 8) ∧ Mid B C w (u0.setCell ⟨g, q * 8 + 7, none⟩ (.string mt0))) := ⟨HD0.out.1.set _ _ _, HD0.out.2.trans (Mid.set hB hC _ _)⟩
      clear HC b0
      go_wp2_with fail
      exact ⟨⟨q + 1, r0 + 1, by omega, by go_num, by omega, by omega, by go_num, HE⟩, by simp [intOf]; omega⟩
    · obtain rfl : q = n := by omega
      go_wp2_with fail
      go_ret
      exact ⟨r, rfl, hr, hr0, HA.out.2⟩
end Go.Proofs.YtmbnfpifganeeaaGreatDoor.Gy
namespace Go.Proofs.YtmbnfpifganeeaaGreatDoor.Op
open Go.ChangeShapes Go.WideShapes Go.ChangeAt Go.RowKit Go.Deep Go.Proofs.YtmbnfpifganeeaaGreatDoor.Rg Go.Proofs.YtmbnfpifganeeaaGreatDoor.Gy
set_option maxRecDepth 100000 in
theorem fields_reply {H : Type} {enc : TypeId × Value → H} {w : World} {base : Nat} {spare : Nat → Bool} {held : Bool} {fuel : Nat} {v0 v1 v2 v3 v4 v5 v6 v7 : Value} {y : DataW H × List MemPlace} (ht : DataW.trod enc Tryz.prog w base spare held fuel 31 [v0, v1, v2, v3, v4, v5, v6, v7] = some y) :
    ∃ x : Re, Tz maxLen x ∧ v0 = .int .i64 x.nd ∧ v1 = .int .i64 x.cl ∧ v2 = .int .i64 x.st ∧ v3 = .int .i64 x.kd ∧ v4 = .int .i64 x.tk ∧ v5 = .int .i64 x.hd ∧ v6 = .int .i64 x.ex ∧ v7 = .string x.mc := by
  have k1 : Tryz.prog.cellsOf 3 = 1 := by kernel_rfl
  have k2 : Tryz.prog.cellsOf 9 = 1 := by kernel_rfl
  have ka : Tryz.prog.cellsOf 29 = 4 := by kernel_rfl
  obtain ⟨xs, k, hk, _, _, hxl, hff⟩ := DataW.trod_struct Tryz.underlying31 ht
  match xs, hxl with
  | [y0, y1, y2, y3, y4], _ =>
    have g0 := hff 0 _ rfl
    have g1 := hff 1 _ rfl
    have g2 := hff 2 _ rfl
    have g3 := hff 3 _ rfl
    have g7 := hff 4 _ rfl
    simp [k1, k2, ka] at g0 g1 g2 g3 g7
    obtain ⟨z0, q0, _, _⟩ := DataW.trod_int Tryz.underlying3 g0
    obtain ⟨z1, q1, _, _⟩ := DataW.trod_int Tryz.underlying3 g1
    obtain ⟨z2, q2, _, _⟩ := DataW.trod_int Tryz.underlying3 g2
    obtain ⟨z7, q7, _, m7⟩ := DataW.trod_string Tryz.underlying9 g7
    obtain ⟨xs', k', _, _, _, hxl', hff'⟩ := DataW.trod_struct Tryz.underlying29 g3
    match xs', hxl' with
    | [y0', y1', y2', y3'], _ =>
      have g3 := hff' 0 _ rfl
      have g4 := hff' 1 _ rfl
      have g5 := hff' 2 _ rfl
      have g6 := hff' 3 _ rfl
      simp [k1] at g3 g4 g5 g6
      obtain ⟨z3, q3, _, _⟩ := DataW.trod_int Tryz.underlying3 g3
      obtain ⟨z4, q4, _, _⟩ := DataW.trod_int Tryz.underlying3 g4
      obtain ⟨z5, q5, _, _⟩ := DataW.trod_int Tryz.underlying3 g5
      obtain ⟨z6, q6, _, _⟩ := DataW.trod_int Tryz.underlying3 g6
      simp at q0 q1 q2 q3 q4 q5 q6 q7
      exact ⟨⟨z0, z1, z2, z3, z4, z5, z6, z7⟩, m7, q0, q1, q2, q3, q4, q5, q6, q7⟩
set_option maxRecDepth 100000 in
theorem open_reply {H : Type} {enc : TypeId × Value → H} {w : World} {base : Nat} {spare : Nat → Bool} {held : Bool} {r : Reach} {b0 : Nat} {v : Value} {d : DataW H} {p : List MemPlace}
    (hv : Value.okWide Tryz.prog w r b0 31 v) (h : DataW.Trod enc Tryz.prog w base spare held 31 v d p) :
    ∃ x : Re, v = oneV x ∧ Tz maxLen x := by
  obtain ⟨cs, rfl, hsz⟩ := okWide_struct Tryz.underlying31 hv
  obtain ⟨fuel, hf⟩ := h
  have hsz2 : cs.size = 8 := hsz.trans (by kernel_rfl)
  obtain ⟨cl⟩ := cs
  match cl, hsz2 with
  | [c0, c1, c2, c3, c4, c5, c6, c7], _ =>
    obtain ⟨x, m, rfl, rfl, rfl, rfl, rfl, rfl, rfl, rfl⟩ := fields_reply (by simpa [Value.cells] using hf)
    exact ⟨x, rfl, m⟩
set_option maxRecDepth 100000 in
theorem open_answer {H : Type} {enc : TypeId × Value → H} {w : World} {base : Nat} {spare : Nat → Bool} {held : Bool} {r : Reach} {b0 : Nat} {v : Value} {d : DataW H} {p : List MemPlace}
    (hv : Value.okWide Tryz.prog w r b0 29 v) (h : DataW.Trod enc Tryz.prog w base spare held 29 v d p) :
    ∃ k t h0 e0 : Int, v = .agg #[.int .i64 k, .int .i64 t, .int .i64 h0, .int .i64 e0] := by
  have k1 : Tryz.prog.cellsOf 3 = 1 := by kernel_rfl
  obtain ⟨cs, rfl, hsz⟩ := okWide_struct Tryz.underlying29 hv
  obtain ⟨fuel, hf⟩ := h
  have hsz2 : cs.size = 4 := hsz.trans (by kernel_rfl)
  obtain ⟨cl⟩ := cs
  match cl, hsz2 with
  | [c0, c1, c2, c3], _ =>
    obtain ⟨xs', k', _, _, _, hxl', hff'⟩ := DataW.trod_struct Tryz.underlying29 hf
    match xs', hxl' with
    | [y0', y1', y2', y3'], _ =>
      have g3 := hff' 0 _ rfl
      have g4 := hff' 1 _ rfl
      have g5 := hff' 2 _ rfl
      have g6 := hff' 3 _ rfl
      simp [Value.cells, k1] at g3 g4 g5 g6
      obtain ⟨z3, q3, _, _⟩ := DataW.trod_int Tryz.underlying3 g3
      obtain ⟨z4, q4, _, _⟩ := DataW.trod_int Tryz.underlying3 g4
      obtain ⟨z5, q5, _, _⟩ := DataW.trod_int Tryz.underlying3 g5
      obtain ⟨z6, q6, _, _⟩ := DataW.trod_int Tryz.underlying3 g6
      simp at q3 q4 q5 q6
      subst q3 q4 q5 q6
      exact ⟨z3, z4, z5, z6, rfl⟩
set_option maxRecDepth 100000 in
theorem openGy {H : Type} {enc : TypeId × Value → H} {w : World} {base : Nat} {spare : Nat → Bool} {held : Bool} {fuel : Nat} {cs : List Value} {y : DataW H × List MemPlace} (hf : DataW.trod enc Tryz.prog w base spare held fuel 24 cs = some y) :
    ∃ v xs, cs = [v] ∧ Gy.Row w v xs ∧ xs.length ≤ maxLen ∧ ∀ x ∈ xs, Gy.Tz maxLen x := by
  refine open_rows Tryz.underlying24 (c := 8) (by kernel_rfl) (by decide) (fun n cs b o y hl hc ht => ?_) hf
  match cs, hl with
  | [v0, v1, v2, v3, v4, v5, v6, v7], _ =>
    obtain ⟨x, m, rfl, rfl, rfl, rfl, rfl, rfl, rfl, rfl⟩ := fields_reply ht
    exact ⟨x, ⟨cell_eq hc 0 (by decide) rfl, cell_eq hc 1 (by decide) rfl, cell_eq hc 2 (by decide) rfl, cell_eq hc 3 (by decide) rfl, cell_eq hc 4 (by decide) rfl, cell_eq hc 5 (by decide) rfl, cell_eq hc 6 (by decide) rfl, cell_eq hc 7 (by decide) rfl⟩, m⟩
end Go.Proofs.YtmbnfpifganeeaaGreatDoor.Op
