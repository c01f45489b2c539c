/- A batch is read: ReadBatch of the program. -/
import Derived.Test.YtkmnjnblacmjlaaTkb
import Derived.Test.YtkmnjnblacmjlaaEqReq
import Derived.Deep.CutRange
import Derived.Deep.DeepCutAuto
namespace Go.Proofs.Ytkmnjnblacmjlaa.Tkb
open Go.RowKit Go.Proofs.Ytkmnjnblacmjlaa.Sl Go.Proofs.Ytkmnjnblacmjlaa.By Go.Proofs.Ytkmnjnblacmjlaa.Ap Go.Proofs.Ytkmnjnblacmjlaa.Rq Go.Proofs.Ytkmnjnblacmjlaa.Rr Go.Proofs.Ytkmnjnblacmjlaa.Gr Go.Proofs.Ytkmnjnblacmjlaa.Bo
open Go.Proofs.Ytkmnjnblacmjlaa.Rg (RowG RowG.slice RowG.at lt_at mem_at bel_new)

structure Bv where
  nl : Bool
  c : Int
  st : Int
  k : Int
  l : Int
  n : ByteArray
  rs : List Rd
def bV (x : Bv) (v : Value) : Value := batV x.nl x.c x.st x.k x.l x.n v
def bOKx (x : Bv) : Bool := bOK x.nl x.c x.st x.k x.l x.n x.rs
def zbat : Array Value := #[.bool false, .int .i64 0, .int .i64 0, .int .i64 0, .int .i64 0, .string ⟨#[]⟩, .slice none 0 0]
def zBv : Bv := ⟨false, 0, 0, 0, 0, ⟨#[]⟩, []⟩
def rjX (long ok : Bool) (x : Bv) : Bv := if long then zBv else if ok then x else zBv
def rjC (long ok : Bool) : Int := if long then 2 else if ok then 0 else 3
theorem ret_x {X Y : Bv} {C D : Int} {u : Value} (h : X = Y ∧ C = D) : Ending.returned (.tuple #[.agg #[.bool Y.nl, .int .i64 Y.c, .int .i64 Y.st, .int .i64 Y.k, .int .i64 Y.l, .string Y.n, u], .int .i64 D]) = .returned (.tuple #[bV X u, .int .i64 C]) := by rw [h.1, h.2]; rfl
/-- How many the first byte tells; what is taken. -/
def cnt (xs : List Int) : Nat := (beN (tkB 1 xs)).toNat
def tbZ (xs : List Int) : List Int := bR (tkR 1 xs) (cnt xs - 1)
def tbX (xs : List Int) : Bv := if cnt xs = 0 then ⟨true, 0, 0, 0, 0, ⟨#[]⟩, []⟩ else ⟨false, rqC (tbZ xs), rqS (tbZ xs), rqK (tbZ xs), rqL (tbZ xs), rqN (tbZ xs), bL (tkR 1 xs) (cnt xs - 1)⟩
def tbR (xs : List Int) : List Int := if cnt xs = 0 then tkR 1 xs else rqRest (tbZ xs)
def tbS (xs : List Int) : Bool := if cnt xs = 0 then tkS 1 xs false else rqSh (tbZ xs) (bS (tkR 1 xs) (tkS 1 xs false) (cnt xs - 1))
theorem cnt_eq {xs : List Int} (hr : ∀ x ∈ xs, 0 ≤ x ∧ x ≤ 255) : beN (tkB 1 xs) = (cnt xs : Int) ∧ cnt xs ≤ 255 := by
  have h1 := beN_range _ (tkB_range (n := 1) hr)
  have h2 := tkB_len 1 xs
  have h3 : (256 : Int) ^ (tkB 1 xs).length ≤ 256 := by
    have : (tkB 1 xs).length = 0 ∨ (tkB 1 xs).length = 1 := by omega
    rcases this with h | h <;> rw [h] <;> decide
  unfold cnt
  omega
theorem takeBatch_any (p B : Nat) (xs : List Int) (w : World) (h : Rdr B w p xs false) (hB : B ≤ p) (hx : xs.length ≤ 70000) (hr : ∀ x ∈ xs, 0 ≤ x ∧ x ≤ 255) :
    Calls Try.prog 22 #[.pointer (some ⟨p, 0, none⟩)] w fun e w' => ∃ u, e = .returned (bV (tbX xs) u) ∧ OwnR w' w.heap.size u (tbX xs).rs ∧ Rdr B w' p (tbR xs) (tbS xs) ∧ w.grownBy w' (some p) := by
  obtain ⟨h1, h2⟩ := cnt_eq hr
  unfold tbX tbR tbS tbZ
  by_cases h0 : cnt xs = 0
  · rw [if_pos h0, if_pos h0, if_pos h0]
    rw [h0] at h1
    refine (takeBatch_no p B xs false w h hB hx hr h1).mono ?_
    rintro e w' ⟨rfl, r, g⟩
    refine ⟨.slice none 0 0, ?_, ?_, r, g⟩
    · dsimp only [bV]
    · exact OwnR.nil _ _
  · rw [if_neg h0, if_neg h0, if_neg h0]
    refine (takeBatch_yes p B (cnt xs - 1) xs false w h hB hx hr (by rw [h1]; omega) (by omega)).mono ?_
    rintro e w' ⟨u, rfl, o, r, g⟩
    refine ⟨u, ?_, ?_, r, g⟩
    · dsimp only [bV]
    · dsimp only
      exact o
set_option maxRecDepth 100000 in
set_option maxHeartbeats 1600000 in
theorem readJustBatch_gen (v : Value) (xs : List Int) (w : World) (h : RowB w v xs) (hl : xs.length ≤ 1048576) (x : Bv) (rs : List Int) (sb : Bool) (hn : x.n.size ≤ maxLen) (hrl : x.rs.length ≤ 1048576)
    (htake : ∀ (W : World) (p B : Nat), Rdr B W p xs false → B ≤ p → xs.length ≤ 70000 → (∀ x ∈ xs, 0 ≤ x ∧ x ≤ 255) → Calls Try.prog 22 #[.pointer (some ⟨p, 0, none⟩)] W fun e w' => ∃ u, e = .returned (bV x u) ∧ OwnR w' W.heap.size u x.rs ∧ Rdr B w' p rs sb ∧ W.grownBy w' (some p)) :
    Calls Try.prog 21 #[v, .func (Fn.func 22) #[] #[], .func (Fn.func 23) #[] #[]] w fun e w' => ∃ u, e = .returned (.tuple #[bV (rjX (decide (65536 < xs.length)) (!sb && (rs.isEmpty && bOKx x)) x) u, .int .i64 (rjC (decide (65536 < xs.length)) (!sb && (rs.isEmpty && bOKx x)))]) ∧ OwnR w' w.heap.size u (rjX (decide (65536 < xs.length)) (!sb && (rs.isEmpty && bOKx x)) x).rs ∧ Below w.heap.size w w' := by
  have HT : Hid (_) := htake
  clear htake
  have HU : Hid (RowU w.heap.size w v xs) := RowU.of h
  obtain ⟨a, cap, rfl, _, hr⟩ := h
  obtain ⟨RX, HRX⟩ : ∃ RX, Hid (rjX (decide (65536 < xs.length)) (!sb && (rs.isEmpty && bOKx x)) x = RX) := ⟨_, rfl⟩
  obtain ⟨RC, HRC⟩ : ∃ RC, Hid (rjC (decide (65536 < xs.length)) (!sb && (rs.isEmpty && bOKx x)) = RC) := ⟨_, rfl⟩
  rw [HRX.out, HRC.out]
  by_cases hb : 65536 < xs.length
  · have hb' : (65536 : Int) < (xs.length : Int) := by omega
    have HN : Hid (RX = zBv ∧ RC = 2) := by show _ ∧ _; rw [← HRX.out, ← HRC.out, decide_eq_true hb]; exact ⟨rfl, rfl⟩
    go_enter Try.func21, Try.ntmps21
    go_wp2_with fail
    refine bodyPost_ret (v := .tuple #[.agg zbat, .int .i64 2]) (by simp [zbat, results, Try.results21, go_sem]) rfl ⟨_, ret_x HN.out, by rw [HN.out.1]; exact OwnR.nil _ _, ((Below.refl _ _).alloc (Nat.le_refl _) _).alloc (by simp) _⟩
  have hb' : (xs.length : Int) ≤ 65536 := by omega
  have HR : Hid (∀ x ∈ xs, 0 ≤ x ∧ x ≤ 255) := hr
  have HX : Hid (xs.length ≤ 65536) := by show _ ≤ _; omega
  have HNS : Hid (∀ _ : Unit, x.n.size ≤ maxLen ∧ x.rs.length ≤ 1048576) := fun _ => ⟨hn, hrl⟩
  have W3s : Hid (((w.alloc (.cells zbat 35)).alloc (.cells zbat 35)).heap.size = w.heap.size + 1 + 1) := by show _ = _; rw [size_new, size_new]
  have H0 : Hid (Rdr w.heap.size (((w.alloc (.cells zbat 35)).alloc (.cells zbat 35)).alloc (.cells #[.slice a xs.length cap, .bool false] 58)) (w.heap.size + 1 + 1) xs false) := by
    refine ⟨_, ?_, HU.out.kept (fun k hk => ?_)⟩
    · have := blk_new ((w.alloc (.cells zbat 35)).alloc (.cells zbat 35)) #[.slice a xs.length cap, .bool false] 58
      rw [W3s.out] at this
      exact this
    · rw [Below.heap_alloc _ _ _ (by simp; omega), Below.heap_alloc _ _ _ (by simp; omega), Below.heap_alloc _ _ _ hk]
  have A0 : Hid ((((w.alloc (.cells zbat 35)).alloc (.cells zbat 35)).alloc (.cells #[.slice a xs.length cap, .bool false] 58)).heap[w.heap.size]? = some (.cells zbat 35 (0, 0))) := ((Below.heap_alloc _ _ _ (by simp; omega)).trans (Below.heap_alloc _ _ _ (by simp))).trans (blk_new _ _ _)
  have B0 : Hid ((((w.alloc (.cells zbat 35)).alloc (.cells zbat 35)).alloc (.cells #[.slice a xs.length cap, .bool false] 58)).heap[w.heap.size + 1]? = some (.cells zbat 35 (0, 0))) := by
    have := blk_new (w.alloc (.cells zbat 35)) zbat 35
    rw [size_new] at this
    exact (Below.heap_alloc _ _ _ (by simp)).trans this
  have G0 : Hid (Below w.heap.size w (((w.alloc (.cells zbat 35)).alloc (.cells zbat 35)).alloc (.cells #[.slice a xs.length cap, .bool false] 58))) := (((Below.refl _ _).alloc (Nat.le_refl _) _).alloc (by simp) _).alloc (by simp; omega) _
  clear hr hl HU W3s hn hrl
  go_enter Try.func21, Try.ntmps21
  go_wp2_with fail
  refine (HT.out _ (w.heap.size + 1 + 1) w.heap.size H0.out (by omega) (by have := HX.out; omega) HR.out).mono ?_
  rintro e w4 ⟨u4, rfl, o4, r4, g4⟩
  obtain ⟨a4, cap4, rfl⟩ := RowG.slice (OwnR.row o4)
  unfold bV batV
  have S0 : w.heap.size + 1 + 1 < (((w.alloc (.cells zbat 35)).alloc (.cells zbat 35)).alloc (.cells #[.slice a xs.length cap, .bool false] 58)).heap.size := by rw [size_new, size_new, size_new]; omega
  have G4 : Below w.heap.size w w4 := ⟨g4.os.trans G0.out.os, g4.tape.trans G0.out.tape, g4.output.trans G0.out.output, Nat.le_trans G0.out.size g4.size, fun k hk => (below_kept g4 (by omega) S0 k hk).trans (G0.out.block k hk)⟩
  have hp4 : w.heap.size + 1 + 1 < w4.heap.size := Nat.lt_of_lt_of_le S0 g4.size
  have a4' := blk_kept A0.out g4 (by omega)
  have b4 := blk_kept B0.out g4 (by omega)
  have O5 : Hid (OwnR (w4.alloc (.cells #[.bool x.nl, .int .i64 x.c, .int .i64 x.st, .int .i64 x.k, .int .i64 x.l, .string x.n, .slice a4 x.rs.length cap4] 35)) (w.heap.size + 1) (.slice a4 x.rs.length cap4) x.rs) := (o4.mono (by rw [size_new, size_new, size_new]; omega)).alloc _
  obtain ⟨v4, p4, a', cap', rfl, _, _, _⟩ := r4
  have A5 : (w4.alloc (.cells #[.bool x.nl, .int .i64 x.c, .int .i64 x.st, .int .i64 x.k, .int .i64 x.l, .string x.n, .slice a4 x.rs.length cap4] 35)).heap[w.heap.size]? = some (.cells zbat 35 (0, 0)) := (Below.heap_alloc _ _ _ (by omega)).trans a4'
  have B5 : (w4.alloc (.cells #[.bool x.nl, .int .i64 x.c, .int .i64 x.st, .int .i64 x.k, .int .i64 x.l, .string x.n, .slice a4 x.rs.length cap4] 35)).heap[w.heap.size + 1]? = some (.cells zbat 35 (0, 0)) := (Below.heap_alloc _ _ _ (by omega)).trans b4
  have P5 := (Below.heap_alloc w4 (.cells #[.bool x.nl, .int .i64 x.c, .int .i64 x.st, .int .i64 x.k, .int .i64 x.l, .string x.n, .slice a4 x.rs.length cap4] 35) _ hp4).trans p4
  have X5 : (w4.alloc (.cells #[.bool x.nl, .int .i64 x.c, .int .i64 x.st, .int .i64 x.k, .int .i64 x.l, .string x.n, .slice a4 x.rs.length cap4] 35)).heap[w4.heap.size]? = some (.cells #[.bool x.nl, .int .i64 x.c, .int .i64 x.st, .int .i64 x.k, .int .i64 x.l, .string x.n, .slice a4 x.rs.length cap4] 35 (0, 0)) := blk_new _ _ _
  have G5 : Below w.heap.size w (w4.alloc (.cells #[.bool x.nl, .int .i64 x.c, .int .i64 x.st, .int .i64 x.k, .int .i64 x.l, .string x.n, .slice a4 x.rs.length cap4] 35)) := G4.alloc G4.size _
  have HE : Hid (RX = (if (!sb && (rs.isEmpty && bOKx x)) then x else zBv) ∧ RC = (if (!sb && (rs.isEmpty && bOKx x)) then 0 else 3)) := by show _ ∧ _; rw [← HRX.out, ← HRC.out, decide_eq_false (by have := HX.out; omega)]; exact ⟨rfl, rfl⟩
  clear HT g4 H0 A0 B0 G0 S0 a4' b4 p4 G4 hp4 o4 HRX HRC
  go_upto_region 6 with fail
  generalize (w4.alloc (.cells #[.bool x.nl, .int .i64 x.c, .int .i64 x.st, .int .i64 x.k, .int .i64 x.l, .string x.n, .slice a4 x.rs.length cap4] 35)) = w5 at A5 B5 P5 X5 G5 O5 ⊢
  have hx5 : w4.heap.size < w5.heap.size := (Array.getElem?_eq_some_iff.1 X5).1
  generalize w4.heap.size = x5 at X5 hx5 ⊢
  obtain ⟨p0, _⟩ := blk_cell P5 0 (x := .slice a' rs.length cap') rfl
  obtain ⟨p1, _⟩ := blk_cell P5 1 (x := .bool sb) rfl
  clear P5
  rcases Bool.eq_false_or_eq_true sb with hsb | hsb
  case inl =>
    rw [hsb] at p1
    have HN : Hid (RX = zBv ∧ RC = 3) := by show _ ∧ _; rw [HE.out.1, HE.out.2, hsb]; exact ⟨rfl, rfl⟩
    have yc0 := (blk_cell B5 0 (x := .bool false) rfl).1
    have yc1 := (blk_cell B5 1 (x := .int .i64 0) rfl).1
    have yc2 := (blk_cell B5 2 (x := .int .i64 0) rfl).1
    have yc3 := (blk_cell B5 3 (x := .int .i64 0) rfl).1
    have yc4 := (blk_cell B5 4 (x := .int .i64 0) rfl).1
    have yc5 := (blk_cell B5 5 (x := .string ⟨#[]⟩) rfl).1
    have yc6 := (blk_cell B5 6 (x := .slice none 0 0) rfl).1
    obtain ⟨zc0, zf0⟩ := blk_cell A5 0 (x := .bool false) rfl
    obtain ⟨zc1, zf1⟩ := blk_cell A5 1 (x := .int .i64 0) rfl
    obtain ⟨zc2, zf2⟩ := blk_cell A5 2 (x := .int .i64 0) rfl
    obtain ⟨zc3, zf3⟩ := blk_cell A5 3 (x := .int .i64 0) rfl
    obtain ⟨zc4, zf4⟩ := blk_cell A5 4 (x := .int .i64 0) rfl
    obtain ⟨zc5, zf5⟩ := blk_cell A5 5 (x := .string ⟨#[]⟩) rfl
    obtain ⟨zc6, zf6⟩ := blk_cell A5 6 (x := .slice none 0 0) rfl
    clear HE O5
    have AF : (((((((w5.setCell ⟨w.heap.size, 0, none⟩ (.bool false)).setCell ⟨w.heap.size, 1, none⟩ (.int .i64 0)).setCell ⟨w.heap.size, 2, none⟩ (.int .i64 0)).setCell ⟨w.heap.size, 3, none⟩ (.int .i64 0)).setCell ⟨w.heap.size, 4, none⟩ (.int .i64 0)).setCell ⟨w.heap.size, 5, none⟩ (.string ⟨#[]⟩)).setCell ⟨w.heap.size, 6, none⟩ (.slice none 0 0)).heap[w.heap.size]? = some (.cells #[.bool false, .int .i64 0, .int .i64 0, .int .i64 0, .int .i64 0, .string ⟨#[]⟩, .slice none 0 0] 35 (0, 0)) := (blk_set (blk_set (blk_set (blk_set (blk_set (blk_set (blk_set A5 0 (.bool false)) 1 (.int .i64 0)) 2 (.int .i64 0)) 3 (.int .i64 0)) 4 (.int .i64 0)) 5 (.string ⟨#[]⟩)) 6 (.slice none 0 0))
    have GF : Hid (Below w.heap.size w (((((((w5.setCell ⟨w.heap.size, 0, none⟩ (.bool false)).setCell ⟨w.heap.size, 1, none⟩ (.int .i64 0)).setCell ⟨w.heap.size, 2, none⟩ (.int .i64 0)).setCell ⟨w.heap.size, 3, none⟩ (.int .i64 0)).setCell ⟨w.heap.size, 4, none⟩ (.int .i64 0)).setCell ⟨w.heap.size, 5, none⟩ (.string ⟨#[]⟩)).setCell ⟨w.heap.size, 6, none⟩ (.slice none 0 0))) := (Below.setCell (Below.setCell (Below.setCell (Below.setCell (Below.setCell (Below.setCell (Below.setCell G5 (p := ⟨w.heap.size, 0, none⟩) (Nat.le_refl _) (.bool false)) (p := ⟨w.heap.size, 1, none⟩) (Nat.le_refl _) (.int .i64 0)) (p := ⟨w.heap.size, 2, none⟩) (Nat.le_refl _) (.int .i64 0)) (p := ⟨w.heap.size, 3, none⟩) (Nat.le_refl _) (.int .i64 0)) (p := ⟨w.heap.size, 4, none⟩) (Nat.le_refl _) (.int .i64 0)) (p := ⟨w.heap.size, 5, none⟩) (Nat.le_refl _) (.string ⟨#[]⟩)) (p := ⟨w.heap.size, 6, none⟩) (Nat.le_refl _) (.slice none 0 0))
    go_wp2_with fail
    generalize (((((((w5.setCell ⟨w.heap.size, 0, none⟩ (.bool false)).setCell ⟨w.heap.size, 1, none⟩ (.int .i64 0)).setCell ⟨w.heap.size, 2, none⟩ (.int .i64 0)).setCell ⟨w.heap.size, 3, none⟩ (.int .i64 0)).setCell ⟨w.heap.size, 4, none⟩ (.int .i64 0)).setCell ⟨w.heap.size, 5, none⟩ (.string ⟨#[]⟩)).setCell ⟨w.heap.size, 6, none⟩ (.slice none 0 0)) = wf at AF GF ⊢
    have d0 := (blk_cell AF 0 (x := .bool false) rfl).1
    have d1 := (blk_cell AF 1 (x := .int .i64 0) rfl).1
    have d2 := (blk_cell AF 2 (x := .int .i64 0) rfl).1
    have d3 := (blk_cell AF 3 (x := .int .i64 0) rfl).1
    have d4 := (blk_cell AF 4 (x := .int .i64 0) rfl).1
    have d5 := (blk_cell AF 5 (x := .string ⟨#[]⟩) rfl).1
    have d6 := (blk_cell AF 6 (x := .slice none 0 0) rfl).1
    refine bodyPost_ret (v := .tuple #[.agg #[.bool false, .int .i64 0, .int .i64 0, .int .i64 0, .int .i64 0, .string ⟨#[]⟩, .slice none 0 0], .int .i64 3]) (by simp [results, Try.results21, go_sem, d0, d1, d2, d3, d4, d5, d6]) rfl ⟨_, ret_x HN.out, by rw [HN.out.1]; exact OwnR.nil _ _, GF.out⟩
  case inr =>
  rw [hsb] at p1
  rcases rs with _ | ⟨y, ys⟩
  rotate_left
  · have HN : Hid (RX = zBv ∧ RC = 3) := by show _ ∧ _; rw [HE.out.1, HE.out.2, hsb]; exact ⟨rfl, rfl⟩
    have hlen : 0 < (y :: ys).length := Nat.succ_pos _
    have hdec : decide (0 < (y :: ys).length) = true := decide_eq_true hlen
    generalize (y :: ys).length = len at p0 hlen hdec
    have yc0 := (blk_cell B5 0 (x := .bool false) rfl).1
    have yc1 := (blk_cell B5 1 (x := .int .i64 0) rfl).1
    have yc2 := (blk_cell B5 2 (x := .int .i64 0) rfl).1
    have yc3 := (blk_cell B5 3 (x := .int .i64 0) rfl).1
    have yc4 := (blk_cell B5 4 (x := .int .i64 0) rfl).1
    have yc5 := (blk_cell B5 5 (x := .string ⟨#[]⟩) rfl).1
    have yc6 := (blk_cell B5 6 (x := .slice none 0 0) rfl).1
    obtain ⟨zc0, zf0⟩ := blk_cell A5 0 (x := .bool false) rfl
    obtain ⟨zc1, zf1⟩ := blk_cell A5 1 (x := .int .i64 0) rfl
    obtain ⟨zc2, zf2⟩ := blk_cell A5 2 (x := .int .i64 0) rfl
    obtain ⟨zc3, zf3⟩ := blk_cell A5 3 (x := .int .i64 0) rfl
    obtain ⟨zc4, zf4⟩ := blk_cell A5 4 (x := .int .i64 0) rfl
    obtain ⟨zc5, zf5⟩ := blk_cell A5 5 (x := .string ⟨#[]⟩) rfl
    obtain ⟨zc6, zf6⟩ := blk_cell A5 6 (x := .slice none 0 0) rfl
    clear HE O5
    have AF : (((((((w5.setCell ⟨w.heap.size, 0, none⟩ (.bool false)).setCell ⟨w.heap.size, 1, none⟩ (.int .i64 0)).setCell ⟨w.heap.size, 2, none⟩ (.int .i64 0)).setCell ⟨w.heap.size, 3, none⟩ (.int .i64 0)).setCell ⟨w.heap.size, 4, none⟩ (.int .i64 0)).setCell ⟨w.heap.size, 5, none⟩ (.string ⟨#[]⟩)).setCell ⟨w.heap.size, 6, none⟩ (.slice none 0 0)).heap[w.heap.size]? = some (.cells #[.bool false, .int .i64 0, .int .i64 0, .int .i64 0, .int .i64 0, .string ⟨#[]⟩, .slice none 0 0] 35 (0, 0)) := (blk_set (blk_set (blk_set (blk_set (blk_set (blk_set (blk_set A5 0 (.bool false)) 1 (.int .i64 0)) 2 (.int .i64 0)) 3 (.int .i64 0)) 4 (.int .i64 0)) 5 (.string ⟨#[]⟩)) 6 (.slice none 0 0))
    have GF : Hid (Below w.heap.size w (((((((w5.setCell ⟨w.heap.size, 0, none⟩ (.bool false)).setCell ⟨w.heap.size, 1, none⟩ (.int .i64 0)).setCell ⟨w.heap.size, 2, none⟩ (.int .i64 0)).setCell ⟨w.heap.size, 3, none⟩ (.int .i64 0)).setCell ⟨w.heap.size, 4, none⟩ (.int .i64 0)).setCell ⟨w.heap.size, 5, none⟩ (.string ⟨#[]⟩)).setCell ⟨w.heap.size, 6, none⟩ (.slice none 0 0))) := (Below.setCell (Below.setCell (Below.setCell (Below.setCell (Below.setCell (Below.setCell (Below.setCell G5 (p := ⟨w.heap.size, 0, none⟩) (Nat.le_refl _) (.bool false)) (p := ⟨w.heap.size, 1, none⟩) (Nat.le_refl _) (.int .i64 0)) (p := ⟨w.heap.size, 2, none⟩) (Nat.le_refl _) (.int .i64 0)) (p := ⟨w.heap.size, 3, none⟩) (Nat.le_refl _) (.int .i64 0)) (p := ⟨w.heap.size, 4, none⟩) (Nat.le_refl _) (.int .i64 0)) (p := ⟨w.heap.size, 5, none⟩) (Nat.le_refl _) (.string ⟨#[]⟩)) (p := ⟨w.heap.size, 6, none⟩) (Nat.le_refl _) (.slice none 0 0))
    go_wp2_with fail
    generalize (((((((w5.setCell ⟨w.heap.size, 0, none⟩ (.bool false)).setCell ⟨w.heap.size, 1, none⟩ (.int .i64 0)).setCell ⟨w.heap.size, 2, none⟩ (.int .i64 0)).setCell ⟨w.heap.size, 3, none⟩ (.int .i64 0)).setCell ⟨w.heap.size, 4, none⟩ (.int .i64 0)).setCell ⟨w.heap.size, 5, none⟩ (.string ⟨#[]⟩)).setCell ⟨w.heap.size, 6, none⟩ (.slice none 0 0)) = wf at AF GF ⊢
    have d0 := (blk_cell AF 0 (x := .bool false) rfl).1
    have d1 := (blk_cell AF 1 (x := .int .i64 0) rfl).1
    have d2 := (blk_cell AF 2 (x := .int .i64 0) rfl).1
    have d3 := (blk_cell AF 3 (x := .int .i64 0) rfl).1
    have d4 := (blk_cell AF 4 (x := .int .i64 0) rfl).1
    have d5 := (blk_cell AF 5 (x := .string ⟨#[]⟩) rfl).1
    have d6 := (blk_cell AF 6 (x := .slice none 0 0) rfl).1
    refine bodyPost_ret (v := .tuple #[.agg #[.bool false, .int .i64 0, .int .i64 0, .int .i64 0, .int .i64 0, .string ⟨#[]⟩, .slice none 0 0], .int .i64 3]) (by simp [results, Try.results21, go_sem, d0, d1, d2, d3, d4, d5, d6]) rfl ⟨_, ret_x HN.out, by rw [HN.out.1]; exact OwnR.nil _ _, GF.out⟩
  have xc0 := (blk_cell X5 0 (x := .bool x.nl) rfl).1
  have xc1 := (blk_cell X5 1 (x := .int .i64 x.c) rfl).1
  have xc2 := (blk_cell X5 2 (x := .int .i64 x.st) rfl).1
  have xc3 := (blk_cell X5 3 (x := .int .i64 x.k) rfl).1
  have xc4 := (blk_cell X5 4 (x := .int .i64 x.l) rfl).1
  have xc5 := (blk_cell X5 5 (x := .string x.n) rfl).1
  have xc6 := (blk_cell X5 6 (x := .slice a4 x.rs.length cap4) rfl).1
  have HE2 : Hid (RX = (if bOKx x then x else zBv) ∧ RC = (if bOKx x then 0 else 3)) := by show _ ∧ _; rw [HE.out.1, HE.out.2, hsb]; exact ⟨rfl, rfl⟩
  clear HE
  go_wp2_with fail
  refine (batchOK_any x.nl x.c x.st x.k x.l x.n _ x.rs _ O5.out.row (HNS.out ()).2 (HNS.out ()).1).mono ?_
  rintro e w6 ⟨rfl, b6⟩
  have t5 : w.heap.size + 1 < w5.heap.size := (Array.getElem?_eq_some_iff.1 B5).1
  have A6 := (b6.block w.heap.size (by omega)).trans A5
  have B6 := (b6.block (w.heap.size + 1) t5).trans B5
  have X6 := (b6.block x5 hx5).trans X5
  have G6 : Below w.heap.size w w6 := G5.trans (b6.mono G5.size)
  have O6 : Hid (OwnR w6 (w.heap.size + 1) (.slice a4 x.rs.length cap4) x.rs) := O5.out.below b6
  clear A5 B5 X5 G5 b6 hx5 t5 p0 p1 O5 xc0 xc1 xc2 xc3 xc4 xc5 xc6
  have EB : Hid (bOK x.nl x.c x.st x.k x.l x.n x.rs = bOKx x) := rfl
  rw [EB.out]
  clear EB
  cases hq : bOKx x
  case false =>
    have HN : Hid (RX = zBv ∧ RC = 3) := by show _ ∧ _; rw [HE2.out.1, HE2.out.2, hq]; exact ⟨rfl, rfl⟩
    have yc0 := (blk_cell B6 0 (x := .bool false) rfl).1
    have yc1 := (blk_cell B6 1 (x := .int .i64 0) rfl).1
    have yc2 := (blk_cell B6 2 (x := .int .i64 0) rfl).1
    have yc3 := (blk_cell B6 3 (x := .int .i64 0) rfl).1
    have yc4 := (blk_cell B6 4 (x := .int .i64 0) rfl).1
    have yc5 := (blk_cell B6 5 (x := .string ⟨#[]⟩) rfl).1
    have yc6 := (blk_cell B6 6 (x := .slice none 0 0) rfl).1
    obtain ⟨zc0, zf0⟩ := blk_cell A6 0 (x := .bool false) rfl
    obtain ⟨zc1, zf1⟩ := blk_cell A6 1 (x := .int .i64 0) rfl
    obtain ⟨zc2, zf2⟩ := blk_cell A6 2 (x := .int .i64 0) rfl
    obtain ⟨zc3, zf3⟩ := blk_cell A6 3 (x := .int .i64 0) rfl
    obtain ⟨zc4, zf4⟩ := blk_cell A6 4 (x := .int .i64 0) rfl
    obtain ⟨zc5, zf5⟩ := blk_cell A6 5 (x := .string ⟨#[]⟩) rfl
    obtain ⟨zc6, zf6⟩ := blk_cell A6 6 (x := .slice none 0 0) rfl
    clear HE2 O6
    have AF : (((((((w6.setCell ⟨w.heap.size, 0, none⟩ (.bool false)).setCell ⟨w.heap.size, 1, none⟩ (.int .i64 0)).setCell ⟨w.heap.size, 2, none⟩ (.int .i64 0)).setCell ⟨w.heap.size, 3, none⟩ (.int .i64 0)).setCell ⟨w.heap.size, 4, none⟩ (.int .i64 0)).setCell ⟨w.heap.size, 5, none⟩ (.string ⟨#[]⟩)).setCell ⟨w.heap.size, 6, none⟩ (.slice none 0 0)).heap[w.heap.size]? = some (.cells #[.bool false, .int .i64 0, .int .i64 0, .int .i64 0, .int .i64 0, .string ⟨#[]⟩, .slice none 0 0] 35 (0, 0)) := (blk_set (blk_set (blk_set (blk_set (blk_set (blk_set (blk_set A6 0 (.bool false)) 1 (.int .i64 0)) 2 (.int .i64 0)) 3 (.int .i64 0)) 4 (.int .i64 0)) 5 (.string ⟨#[]⟩)) 6 (.slice none 0 0))
    have GF : Hid (Below w.heap.size w (((((((w6.setCell ⟨w.heap.size, 0, none⟩ (.bool false)).setCell ⟨w.heap.size, 1, none⟩ (.int .i64 0)).setCell ⟨w.heap.size, 2, none⟩ (.int .i64 0)).setCell ⟨w.heap.size, 3, none⟩ (.int .i64 0)).setCell ⟨w.heap.size, 4, none⟩ (.int .i64 0)).setCell ⟨w.heap.size, 5, none⟩ (.string ⟨#[]⟩)).setCell ⟨w.heap.size, 6, none⟩ (.slice none 0 0))) := (Below.setCell (Below.setCell (Below.setCell (Below.setCell (Below.setCell (Below.setCell (Below.setCell G6 (p := ⟨w.heap.size, 0, none⟩) (Nat.le_refl _) (.bool false)) (p := ⟨w.heap.size, 1, none⟩) (Nat.le_refl _) (.int .i64 0)) (p := ⟨w.heap.size, 2, none⟩) (Nat.le_refl _) (.int .i64 0)) (p := ⟨w.heap.size, 3, none⟩) (Nat.le_refl _) (.int .i64 0)) (p := ⟨w.heap.size, 4, none⟩) (Nat.le_refl _) (.int .i64 0)) (p := ⟨w.heap.size, 5, none⟩) (Nat.le_refl _) (.string ⟨#[]⟩)) (p := ⟨w.heap.size, 6, none⟩) (Nat.le_refl _) (.slice none 0 0))
    go_wp2_with fail
    generalize (((((((w6.setCell ⟨w.heap.size, 0, none⟩ (.bool false)).setCell ⟨w.heap.size, 1, none⟩ (.int .i64 0)).setCell ⟨w.heap.size, 2, none⟩ (.int .i64 0)).setCell ⟨w.heap.size, 3, none⟩ (.int .i64 0)).setCell ⟨w.heap.size, 4, none⟩ (.int .i64 0)).setCell ⟨w.heap.size, 5, none⟩ (.string ⟨#[]⟩)).setCell ⟨w.heap.size, 6, none⟩ (.slice none 0 0)) = wf at AF GF ⊢
    have d0 := (blk_cell AF 0 (x := .bool false) rfl).1
    have d1 := (blk_cell AF 1 (x := .int .i64 0) rfl).1
    have d2 := (blk_cell AF 2 (x := .int .i64 0) rfl).1
    have d3 := (blk_cell AF 3 (x := .int .i64 0) rfl).1
    have d4 := (blk_cell AF 4 (x := .int .i64 0) rfl).1
    have d5 := (blk_cell AF 5 (x := .string ⟨#[]⟩) rfl).1
    have d6 := (blk_cell AF 6 (x := .slice none 0 0) rfl).1
    refine bodyPost_ret (v := .tuple #[.agg #[.bool false, .int .i64 0, .int .i64 0, .int .i64 0, .int .i64 0, .string ⟨#[]⟩, .slice none 0 0], .int .i64 3]) (by simp [results, Try.results21, go_sem, d0, d1, d2, d3, d4, d5, d6]) rfl ⟨_, ret_x HN.out, by rw [HN.out.1]; exact OwnR.nil _ _, GF.out⟩
  case true =>
    have HN : Hid (RX = x ∧ RC = 0) := by show _ ∧ _; rw [HE2.out.1, HE2.out.2, hq]; exact ⟨rfl, rfl⟩
    have xc0 := (blk_cell X6 0 (x := .bool x.nl) rfl).1
    have xc1 := (blk_cell X6 1 (x := .int .i64 x.c) rfl).1
    have xc2 := (blk_cell X6 2 (x := .int .i64 x.st) rfl).1
    have xc3 := (blk_cell X6 3 (x := .int .i64 x.k) rfl).1
    have xc4 := (blk_cell X6 4 (x := .int .i64 x.l) rfl).1
    have xc5 := (blk_cell X6 5 (x := .string x.n) rfl).1
    have xc6 := (blk_cell X6 6 (x := .slice a4 x.rs.length cap4) rfl).1
    obtain ⟨zc0, zf0⟩ := blk_cell A6 0 (x := .bool false) rfl
    obtain ⟨zc1, zf1⟩ := blk_cell A6 1 (x := .int .i64 0) rfl
    obtain ⟨zc2, zf2⟩ := blk_cell A6 2 (x := .int .i64 0) rfl
    obtain ⟨zc3, zf3⟩ := blk_cell A6 3 (x := .int .i64 0) rfl
    obtain ⟨zc4, zf4⟩ := blk_cell A6 4 (x := .int .i64 0) rfl
    obtain ⟨zc5, zf5⟩ := blk_cell A6 5 (x := .string ⟨#[]⟩) rfl
    obtain ⟨zc6, zf6⟩ := blk_cell A6 6 (x := .slice none 0 0) rfl
    clear HE2
    have AF : (((((((w6.setCell ⟨w.heap.size, 0, none⟩ (.bool x.nl)).setCell ⟨w.heap.size, 1, none⟩ (.int .i64 x.c)).setCell ⟨w.heap.size, 2, none⟩ (.int .i64 x.st)).setCell ⟨w.heap.size, 3, none⟩ (.int .i64 x.k)).setCell ⟨w.heap.size, 4, none⟩ (.int .i64 x.l)).setCell ⟨w.heap.size, 5, none⟩ (.string x.n)).setCell ⟨w.heap.size, 6, none⟩ (.slice a4 x.rs.length cap4)).heap[w.heap.size]? = some (.cells #[.bool x.nl, .int .i64 x.c, .int .i64 x.st, .int .i64 x.k, .int .i64 x.l, .string x.n, .slice a4 x.rs.length cap4] 35 (0, 0)) := (blk_set (blk_set (blk_set (blk_set (blk_set (blk_set (blk_set A6 0 (.bool x.nl)) 1 (.int .i64 x.c)) 2 (.int .i64 x.st)) 3 (.int .i64 x.k)) 4 (.int .i64 x.l)) 5 (.string x.n)) 6 (.slice a4 x.rs.length cap4))
    have GF : Hid (Below w.heap.size w (((((((w6.setCell ⟨w.heap.size, 0, none⟩ (.bool x.nl)).setCell ⟨w.heap.size, 1, none⟩ (.int .i64 x.c)).setCell ⟨w.heap.size, 2, none⟩ (.int .i64 x.st)).setCell ⟨w.heap.size, 3, none⟩ (.int .i64 x.k)).setCell ⟨w.heap.size, 4, none⟩ (.int .i64 x.l)).setCell ⟨w.heap.size, 5, none⟩ (.string x.n)).setCell ⟨w.heap.size, 6, none⟩ (.slice a4 x.rs.length cap4))) := (Below.setCell (Below.setCell (Below.setCell (Below.setCell (Below.setCell (Below.setCell (Below.setCell G6 (p := ⟨w.heap.size, 0, none⟩) (Nat.le_refl _) (.bool x.nl)) (p := ⟨w.heap.size, 1, none⟩) (Nat.le_refl _) (.int .i64 x.c)) (p := ⟨w.heap.size, 2, none⟩) (Nat.le_refl _) (.int .i64 x.st)) (p := ⟨w.heap.size, 3, none⟩) (Nat.le_refl _) (.int .i64 x.k)) (p := ⟨w.heap.size, 4, none⟩) (Nat.le_refl _) (.int .i64 x.l)) (p := ⟨w.heap.size, 5, none⟩) (Nat.le_refl _) (.string x.n)) (p := ⟨w.heap.size, 6, none⟩) (Nat.le_refl _) (.slice a4 x.rs.length cap4))
    have OF : Hid (OwnR (((((((w6.setCell ⟨w.heap.size, 0, none⟩ (.bool x.nl)).setCell ⟨w.heap.size, 1, none⟩ (.int .i64 x.c)).setCell ⟨w.heap.size, 2, none⟩ (.int .i64 x.st)).setCell ⟨w.heap.size, 3, none⟩ (.int .i64 x.k)).setCell ⟨w.heap.size, 4, none⟩ (.int .i64 x.l)).setCell ⟨w.heap.size, 5, none⟩ (.string x.n)).setCell ⟨w.heap.size, 6, none⟩ (.slice a4 x.rs.length cap4)) w.heap.size (.slice a4 x.rs.length cap4) x.rs) := (O6.out.mono (by omega)).kept (fun g hg => by have := (O6.out.lt g hg).1; exact ((blk_far (by omega) 6 (.slice a4 x.rs.length cap4)).trans ((blk_far (by omega) 5 (.string x.n)).trans ((blk_far (by omega) 4 (.int .i64 x.l)).trans ((blk_far (by omega) 3 (.int .i64 x.k)).trans ((blk_far (by omega) 2 (.int .i64 x.st)).trans ((blk_far (by omega) 1 (.int .i64 x.c)).trans (blk_far (by omega) 0 (.bool x.nl)))))))))
    go_wp2_with fail
    generalize (((((((w6.setCell ⟨w.heap.size, 0, none⟩ (.bool x.nl)).setCell ⟨w.heap.size, 1, none⟩ (.int .i64 x.c)).setCell ⟨w.heap.size, 2, none⟩ (.int .i64 x.st)).setCell ⟨w.heap.size, 3, none⟩ (.int .i64 x.k)).setCell ⟨w.heap.size, 4, none⟩ (.int .i64 x.l)).setCell ⟨w.heap.size, 5, none⟩ (.string x.n)).setCell ⟨w.heap.size, 6, none⟩ (.slice a4 x.rs.length cap4)) = wf at AF GF OF ⊢
    have d0 := (blk_cell AF 0 (x := .bool x.nl) rfl).1
    have d1 := (blk_cell AF 1 (x := .int .i64 x.c) rfl).1
    have d2 := (blk_cell AF 2 (x := .int .i64 x.st) rfl).1
    have d3 := (blk_cell AF 3 (x := .int .i64 x.k) rfl).1
    have d4 := (blk_cell AF 4 (x := .int .i64 x.l) rfl).1
    have d5 := (blk_cell AF 5 (x := .string x.n) rfl).1
    have d6 := (blk_cell AF 6 (x := .slice a4 x.rs.length cap4) rfl).1
    refine bodyPost_ret (v := .tuple #[.agg #[.bool x.nl, .int .i64 x.c, .int .i64 x.st, .int .i64 x.k, .int .i64 x.l, .string x.n, .slice a4 x.rs.length cap4], .int .i64 0]) (by simp [results, Try.results21, go_sem, d0, d1, d2, d3, d4, d5, d6]) rfl ⟨_, ret_x HN.out, by rw [HN.out.1]; exact OF.out, GF.out⟩

def rbOK (xs : List Int) : Bool := !tbS xs && ((tbR xs).isEmpty && bOKx (tbX xs))
def rbX (xs : List Int) : Bv := rjX (decide (65536 < xs.length)) (rbOK xs) (tbX xs)
def rbC (xs : List Int) : Int := rjC (decide (65536 < xs.length)) (rbOK xs)
theorem tbX_small (xs : List Int) (hr : ∀ x ∈ xs, 0 ≤ x ∧ x ≤ 255) (hl : xs.length ≤ 1048576) : (tbX xs).n.size ≤ maxLen ∧ (tbX xs).rs.length ≤ 255 := by
  unfold tbX
  split
  · exact ⟨by show (0 : Nat) ≤ _; omega, by show (0 : Nat) ≤ _; omega⟩
  · refine ⟨Of.rqN_small _ ?_, ?_⟩
    · unfold tbZ; exact Nat.le_trans (bR_len _ _) (Nat.le_trans (tkR_len _ _) hl)
    · show (bL _ _).length ≤ _
      rw [bL_len]
      have := (cnt_eq hr).2
      omega
set_option maxRecDepth 100000 in
set_option maxHeartbeats 800000 in
theorem implReadBatch_any (v : Value) (xs : List Int) (w : World) (h : RowB w v xs) (hl : xs.length ≤ 1048576) :
    Calls Try.prog 18 #[v] w fun e w' => ∃ u, e = .returned (.tuple #[bV (rbX xs) u, .int .i64 (rbC xs)]) ∧ OwnR w' w.heap.size u (rbX xs).rs ∧ Below w.heap.size w w' := by
  have hr : ∀ x ∈ xs, 0 ≤ x ∧ x ≤ 255 := by obtain ⟨_, _, _, _, h⟩ := h; exact h
  have HS := tbX_small xs hr hl
  have HJ := readJustBatch_gen v xs (w.alloc (.cells zbat 35)) (h.below (bel_new _ _)) hl (tbX xs) (tbR xs) (tbS xs) HS.1 (by omega) (fun W p B h1 h2 h3 h4 => takeBatch_any p B xs W h1 h2 h3 h4)
  obtain ⟨RX, HRX⟩ : ∃ RX, Hid (rbX xs = RX) := ⟨_, rfl⟩
  obtain ⟨RC, HRC⟩ : ∃ RC, Hid (rbC xs = RC) := ⟨_, rfl⟩
  have E1 : Hid (rjX (decide (65536 < xs.length)) (!tbS xs && ((tbR xs).isEmpty && bOKx (tbX xs))) (tbX xs) = RX) := HRX.out
  have E2 : Hid (rjC (decide (65536 < xs.length)) (!tbS xs && ((tbR xs).isEmpty && bOKx (tbX xs))) = RC) := HRC.out
  rw [E1.out, E2.out] at HJ
  rw [HRX.out, HRC.out]
  clear HS hr hl E1 E2 HRX HRC
  go_enter Try.func18, Try.ntmps18
  go_wp2_with fail
  refine HJ.mono ?_
  rintro e w1 ⟨u, rfl, o1, b1⟩
  obtain ⟨a1, cap1, rfl⟩ := RowG.slice (OwnR.row o1)
  unfold bV batV
  have A1 : w1.heap[w.heap.size]? = some (.cells zbat 35 (0, 0)) := (b1.block _ (by simp)).trans (heap_alloc_new w _)
  have G1 : Below w.heap.size w w1 := (bel_new w _).trans (b1.mono (by simp))
  have O1 : Hid (OwnR w1 (w.heap.size + 1) (.slice a1 RX.rs.length cap1) RX.rs) := by rw [size_new] at o1; exact o1
  clear o1 b1 HJ
  obtain ⟨zc0, zf0⟩ := blk_cell A1 0 (x := .bool false) rfl
  obtain ⟨zc1, zf1⟩ := blk_cell A1 1 (x := .int .i64 0) rfl
  obtain ⟨zc2, zf2⟩ := blk_cell A1 2 (x := .int .i64 0) rfl
  obtain ⟨zc3, zf3⟩ := blk_cell A1 3 (x := .int .i64 0) rfl
  obtain ⟨zc4, zf4⟩ := blk_cell A1 4 (x := .int .i64 0) rfl
  obtain ⟨zc5, zf5⟩ := blk_cell A1 5 (x := .string ⟨#[]⟩) rfl
  obtain ⟨zc6, zf6⟩ := blk_cell A1 6 (x := .slice none 0 0) rfl
  have AF : (((((((w1.setCell ⟨w.heap.size, 0, none⟩ (.bool RX.nl)).setCell ⟨w.heap.size, 1, none⟩ (.int .i64 RX.c)).setCell ⟨w.heap.size, 2, none⟩ (.int .i64 RX.st)).setCell ⟨w.heap.size, 3, none⟩ (.int .i64 RX.k)).setCell ⟨w.heap.size, 4, none⟩ (.int .i64 RX.l)).setCell ⟨w.heap.size, 5, none⟩ (.string RX.n)).setCell ⟨w.heap.size, 6, none⟩ (.slice a1 RX.rs.length cap1)).heap[w.heap.size]? = some (.cells #[.bool RX.nl, .int .i64 RX.c, .int .i64 RX.st, .int .i64 RX.k, .int .i64 RX.l, .string RX.n, .slice a1 RX.rs.length cap1] 35 (0, 0)) := (blk_set (blk_set (blk_set (blk_set (blk_set (blk_set (blk_set A1 0 (.bool RX.nl)) 1 (.int .i64 RX.c)) 2 (.int .i64 RX.st)) 3 (.int .i64 RX.k)) 4 (.int .i64 RX.l)) 5 (.string RX.n)) 6 (.slice a1 RX.rs.length cap1))
  have GF : Hid (Below w.heap.size w (((((((w1.setCell ⟨w.heap.size, 0, none⟩ (.bool RX.nl)).setCell ⟨w.heap.size, 1, none⟩ (.int .i64 RX.c)).setCell ⟨w.heap.size, 2, none⟩ (.int .i64 RX.st)).setCell ⟨w.heap.size, 3, none⟩ (.int .i64 RX.k)).setCell ⟨w.heap.size, 4, none⟩ (.int .i64 RX.l)).setCell ⟨w.heap.size, 5, none⟩ (.string RX.n)).setCell ⟨w.heap.size, 6, none⟩ (.slice a1 RX.rs.length cap1))) := (Below.setCell (Below.setCell (Below.setCell (Below.setCell (Below.setCell (Below.setCell (Below.setCell G1 (p := ⟨w.heap.size, 0, none⟩) (Nat.le_refl _) (.bool RX.nl)) (p := ⟨w.heap.size, 1, none⟩) (Nat.le_refl _) (.int .i64 RX.c)) (p := ⟨w.heap.size, 2, none⟩) (Nat.le_refl _) (.int .i64 RX.st)) (p := ⟨w.heap.size, 3, none⟩) (Nat.le_refl _) (.int .i64 RX.k)) (p := ⟨w.heap.size, 4, none⟩) (Nat.le_refl _) (.int .i64 RX.l)) (p := ⟨w.heap.size, 5, none⟩) (Nat.le_refl _) (.string RX.n)) (p := ⟨w.heap.size, 6, none⟩) (Nat.le_refl _) (.slice a1 RX.rs.length cap1))
  have OF : Hid (OwnR (((((((w1.setCell ⟨w.heap.size, 0, none⟩ (.bool RX.nl)).setCell ⟨w.heap.size, 1, none⟩ (.int .i64 RX.c)).setCell ⟨w.heap.size, 2, none⟩ (.int .i64 RX.st)).setCell ⟨w.heap.size, 3, none⟩ (.int .i64 RX.k)).setCell ⟨w.heap.size, 4, none⟩ (.int .i64 RX.l)).setCell ⟨w.heap.size, 5, none⟩ (.string RX.n)).setCell ⟨w.heap.size, 6, none⟩ (.slice a1 RX.rs.length cap1)) w.heap.size (.slice a1 RX.rs.length cap1) RX.rs) := (O1.out.mono (by omega)).kept (fun g hg => by have := (O1.out.lt g hg).1; exact ((blk_far (by omega) 6 (.slice a1 RX.rs.length cap1)).trans ((blk_far (by omega) 5 (.string RX.n)).trans ((blk_far (by omega) 4 (.int .i64 RX.l)).trans ((blk_far (by omega) 3 (.int .i64 RX.k)).trans ((blk_far (by omega) 2 (.int .i64 RX.st)).trans ((blk_far (by omega) 1 (.int .i64 RX.c)).trans (blk_far (by omega) 0 (.bool RX.nl)))))))))
  go_wp2_with fail
  generalize (((((((w1.setCell ⟨w.heap.size, 0, none⟩ (.bool RX.nl)).setCell ⟨w.heap.size, 1, none⟩ (.int .i64 RX.c)).setCell ⟨w.heap.size, 2, none⟩ (.int .i64 RX.st)).setCell ⟨w.heap.size, 3, none⟩ (.int .i64 RX.k)).setCell ⟨w.heap.size, 4, none⟩ (.int .i64 RX.l)).setCell ⟨w.heap.size, 5, none⟩ (.string RX.n)).setCell ⟨w.heap.size, 6, none⟩ (.slice a1 RX.rs.length cap1)) = wf at AF GF OF ⊢
  have d0 := (blk_cell AF 0 (x := .bool RX.nl) rfl).1
  have d1 := (blk_cell AF 1 (x := .int .i64 RX.c) rfl).1
  have d2 := (blk_cell AF 2 (x := .int .i64 RX.st) rfl).1
  have d3 := (blk_cell AF 3 (x := .int .i64 RX.k) rfl).1
  have d4 := (blk_cell AF 4 (x := .int .i64 RX.l) rfl).1
  have d5 := (blk_cell AF 5 (x := .string RX.n) rfl).1
  have d6 := (blk_cell AF 6 (x := .slice a1 RX.rs.length cap1) rfl).1
  refine bodyPost_ret (v := .tuple #[.agg #[.bool RX.nl, .int .i64 RX.c, .int .i64 RX.st, .int .i64 RX.k, .int .i64 RX.l, .string RX.n, .slice a1 RX.rs.length cap1], .int .i64 RC]) (by simp [results, Try.results18, go_sem, d0, d1, d2, d3, d4, d5, d6]) rfl ⟨_, rfl, OF.out, GF.out⟩
end Go.Proofs.Ytkmnjnblacmjlaa.Tkb
