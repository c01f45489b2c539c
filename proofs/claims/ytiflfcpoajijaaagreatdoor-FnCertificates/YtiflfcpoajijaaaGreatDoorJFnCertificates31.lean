/- Texts put together: Gnr, Grq. -/
import Derived.Test.YtiflfcpoajijaaaGreatDoorTk
import Derived.Test.YtiflfcpoajijaaaGreatDoorQt
import Derived.BigRegion
import Derived.Test.YtiflfcpoajijaaaGreatDoorJFnCertificates0
/- The specification's source of choices; the laws' own choices. -/
namespace Go.Proofs.YtiflfcpoajijaaaGreatDoor.Gn
open Go.RowKit Go.Proofs.YtiflfcpoajijaaaGreatDoor.Sl Go.Proofs.YtiflfcpoajijaaaGreatDoor.By Go.Proofs.YtiflfcpoajijaaaGreatDoor.Ap Go.Proofs.YtiflfcpoajijaaaGreatDoor.Tx
/-- The slice v holds the bytes xs, in blocks below B. -/
def RowU (B : Nat) (w : World) (v : Value) (xs : List Int) : Prop :=
  ∃ a cap, v = .slice a xs.length cap ∧ xs.length ≤ cap ∧ (xs = [] ∨ ∃ b off, a = some ⟨b, off, none⟩ ∧ b < B ∧ ∀ i, i < xs.length → w.cell? ⟨b, off + i, none⟩ = some (.int .u8 (nth xs i))) ∧ ∀ x ∈ xs, 0 ≤ x ∧ x ≤ 255
theorem RowU.of {w : World} {v : Value} {xs : List Int} (h : RowB w v xs) : RowU w.heap.size w v xs := by
  obtain ⟨a, cap, rfl, h, hr⟩ := h
  rcases h with rfl | ⟨b, off, rfl, hc, hlt, h⟩
  · exact ⟨a, cap, rfl, Nat.zero_le _, .inl rfl, hr⟩
  · exact ⟨_, cap, rfl, hc, .inr ⟨b, off, rfl, hlt, h⟩, hr⟩
theorem RowU.row {B : Nat} {w : World} {v : Value} {xs : List Int} (h : RowU B w v xs) (hB : B ≤ w.heap.size) : RowB w v xs := by
  obtain ⟨a, cap, rfl, hc, h, hr⟩ := h
  rcases h with rfl | ⟨b, off, rfl, hlt, h⟩
  · exact ⟨a, cap, rfl, .inl rfl, hr⟩
  · exact ⟨_, cap, rfl, .inr ⟨b, off, rfl, hc, Nat.lt_of_lt_of_le hlt hB, h⟩, hr⟩
theorem RowU.kept {B : Nat} {w w' : World} {v : Value} {xs : List Int} (h : RowU B w v xs) (hb : ∀ k, k < B → w'.heap[k]? = w.heap[k]?) : RowU B w' v xs := by
  obtain ⟨a, cap, rfl, hc, h, hr⟩ := h
  refine ⟨a, cap, rfl, hc, ?_, hr⟩
  rcases h with h | ⟨b, off, rfl, hlt, h⟩
  · exact .inl h
  · exact .inr ⟨b, off, rfl, hlt, fun i hi => (World.cell?_of_block (a := ⟨b, off + i, none⟩) (hb b hlt)).trans (h i hi)⟩
theorem grown_set {w : World} {p : Nat} (i : Nat) (x : Value) : w.grownBy (w.setCell ⟨p, i, none⟩ x) (some p) :=
  ⟨rfl, rfl, rfl, by simp, fun k _ hk => Below.heap_setCell w ⟨p, i, none⟩ x k (fun e => hk (by rw [e]))⟩
theorem grown_trans {w w1 w2 : World} {r : Option Nat} (h : w.grownBy w1 r) (g : w1.grownBy w2 r) : w.grownBy w2 r :=
  ⟨g.os.trans h.os, g.tape.trans h.tape, g.output.trans h.output, Nat.le_trans h.size g.size, fun k hk hn => (g.block k (Nat.lt_of_lt_of_le hk h.size) hn).trans (h.block k hk hn)⟩
theorem grown_refl (w : World) (r : Option Nat) : w.grownBy w r := ⟨rfl, rfl, rfl, Nat.le_refl _, fun _ _ _ => rfl⟩
theorem below_kept {B p : Nat} {w w' : World} (h : w.grownBy w' (some p)) (hB : B ≤ p) (hp : p < w.heap.size) : ∀ k, k < B → w'.heap[k]? = w.heap[k]? :=
  fun k hk => h.block k (by omega) (by simp; omega)
theorem blk_kept {w w' : World} {p b : Nat} {o : Obj} (h : w.heap[b]? = some o) (hg : w.grownBy w' (some p)) (hb : b ≠ p) : w'.heap[b]? = some o :=
  (hg.block b (Array.getElem?_eq_some_iff.1 h).1 (by simp; omega)).trans h
/-- A source in block p: its code, where it stands (at most K), its seed. -/
def Src (B : Nat) (w : World) (p : Nat) (xs : List Int) (K : Nat) : Prop :=
  ∃ (v : Value) (at_ : Nat) (sd : Int), w.heap[p]? = some (.cells #[v, .int .i64 at_, .int .i64 sd] 78 (0, 0)) ∧ RowU B w v xs ∧ at_ ≤ K ∧ 0 ≤ sd ∧ sd < 2147483648
theorem Src.lt {B p K : Nat} {w : World} {xs : List Int} (h : Src B w p xs K) : p < w.heap.size := by
  obtain ⟨v, a, s, h1, _⟩ := h
  exact (Array.getElem?_eq_some_iff.1 h1).1
theorem Src.kept {B p K : Nat} {w w' : World} {xs : List Int} (h : Src B w p xs K) (hp : w'.heap[p]? = w.heap[p]?) (hb : ∀ k, k < B → w'.heap[k]? = w.heap[k]?) : Src B w' p xs K := by
  obtain ⟨v, a, s, h1, h2, h3⟩ := h
  exact ⟨v, a, s, hp.trans h1, h2.kept hb, h3⟩
theorem src_end {B p K at_ : Nat} {w : World} {xs : List Int} {v : Value} {sd : Int} (h : w.heap[p]? = some (.cells #[v, .int .i64 ((at_ : Int) + 1), .int .i64 sd] 78 (0, 0))) (hu : RowU B w v xs) (ha : at_ ≤ K) (h0 : 0 ≤ sd) (h1 : sd < 2147483648) : Src B w p xs (K + 1) :=
  ⟨v, at_ + 1, sd, by rw [show (((at_ + 1 : Nat)) : Int) = (at_ : Int) + 1 by omega]; exact h, hu, by omega, h0, h1⟩
set_option maxRecDepth 100000 in
set_option maxHeartbeats 1600000 in
theorem byte_any (p B K : Nat) (xs : List Int) (w : World) (h : Src B w p xs K) (hB : B ≤ p) (hK : K ≤ 1000000000) (_hx : xs.length ≤ 1048576) :
    Calls Tryz.prog 81 #[.pointer (some ⟨p, 0, none⟩)] w fun e w' => ∃ r : Int, e = .returned (.int .i64 r) ∧ 0 ≤ r ∧ r ≤ 255 ∧ Src B w' p xs (K + 1) ∧ w.grownBy w' (some p) := by
  have hp := h.lt
  obtain ⟨v, at_, sd, h1, hu, hat, hs0, hs1⟩ := h
  obtain ⟨c0, f0⟩ := blk_cell h1 0 (x := v) rfl
  obtain ⟨c1, f1⟩ := blk_cell h1 1 (x := .int .i64 at_) rfl
  obtain ⟨c2, f2⟩ := blk_cell h1 2 (x := .int .i64 sd) rfl
  have HU : Hid (RowU B w v xs) := hu
  obtain ⟨a, cap, rfl, hcap, hc, hr⟩ := hu
  have H1 : Hid (w.heap[p]? = some (.cells #[.slice a xs.length cap, .int .i64 at_, .int .i64 sd] 78 (0, 0))) := h1
  have HR : Hid (∀ x ∈ xs, 0 ≤ x ∧ x ≤ 255) := hr
  clear h1 hr
  by_cases hlt : at_ < xs.length
  · have hlt' : (at_ : Int) + 1 ≤ (xs.length : Int) := by omega
    rcases hc with hc | ⟨b, off, rfl, hb, hcell⟩
    · exact absurd hlt (by rw [hc]; simp)
    have hc1 := hcell at_ hlt
    have hne : b ≠ p := by omega
    have hx1 := range_at HR.out at_
    clear hcell
    go_enter Tryz.func81, Tryz.ntmps81
    go_wp2_with fail
    go_quiet (fail)
    go_wp2_with fail
    have H2 : ((w.setCell ⟨p, 1, none⟩ (.int .i64 ((at_ : Int) + 1))).drewN nq).heap[p]? = some (.cells #[.slice (some ⟨b, off, none⟩) xs.length cap, .int .i64 ((at_ : Int) + 1), .int .i64 sd] 78 (0, 0)) := blk_set H1.out 1 (.int .i64 ((at_ : Int) + 1))
    have G2 : w.grownBy ((w.setCell ⟨p, 1, none⟩ (.int .i64 ((at_ : Int) + 1))).drewN nq) (some p) := by
      have g := grown_set (w := w) (p := p) 1 (.int .i64 ((at_ : Int) + 1))
      exact ⟨g.os, g.tape, g.output, g.size, g.block⟩
    have X2 : ((w.setCell ⟨p, 1, none⟩ (.int .i64 ((at_ : Int) + 1))).drewN nq).cell? ⟨b, off + at_, none⟩ = some (.int .u8 (nth xs at_)) := (World.cell?_of_block (a := ⟨b, off + at_, none⟩) (below_kept G2 hB hp b hb)).trans hc1
    generalize (w.setCell ⟨p, 1, none⟩ (.int .i64 ((at_ : Int) + 1))).drewN nq = w2 at H2 G2 X2 ⊢
    clear c0 c1 c2 f0 f1 f2 hc1
    obtain ⟨c0, f0⟩ := blk_cell H2 0 (x := .slice (some ⟨b, off, none⟩) xs.length cap) rfl
    obtain ⟨c1, f1⟩ := blk_cell H2 1 (x := .int .i64 ((at_ : Int) + 1)) rfl
    obtain ⟨c2, f2⟩ := blk_cell H2 2 (x := .int .i64 sd) rfl
    have HH2 : Hid (w2.heap[p]? = some (.cells #[.slice (some ⟨b, off, none⟩) xs.length cap, .int .i64 ((at_ : Int) + 1), .int .i64 sd] 78 (0, 0))) := H2
    clear H2
    refine Qt.region_quiet_tail 23 (by kernel_rfl) (by kernel_rfl) ?_
    simp only [List.take_succ_cons, List.take_zero, List.drop_succ_cons, List.drop_zero]
    repeat (go_big_quiet_step (fail))
    refine wpQuiet_nil ?_
    go_wp2_with fail
    go_quiet (fail)
    go_wp2_with fail
    go_ret
    refine ⟨nth xs at_, rfl, hx1.1, hx1.2, src_end (at_ := at_) (sd := (sd * 31 + nth xs at_ + 7) % 2147483648) ?_ (HU.out.kept ?_) hat (by omega) (by omega), ?_⟩
    · exact blk_set HH2.out 2 (.int .i64 ((sd * 31 + nth xs at_ + 7) % 2147483648))
    · exact fun k hk => (blk_far (w := w2) (b := p) (by omega) 2 (.int .i64 ((sd * 31 + nth xs at_ + 7) % 2147483648))).trans (below_kept G2 hB hp k hk)
    · have g := grown_trans G2 (grown_set (w := w2) (p := p) 2 (.int .i64 ((sd * 31 + nth xs at_ + 7) % 2147483648)))
      exact ⟨g.os, g.tape, g.output, g.size, g.block⟩
  · have hlt' : ¬ (at_ : Int) + 1 ≤ (xs.length : Int) := by omega
    clear hc
    by_cases h3 : 3000 < at_ + 1
    · have h3' : (3000 : Int) < (at_ : Int) + 1 := by omega
      go_enter Tryz.func81, Tryz.ntmps81
      go_wp2_with fail
      go_quiet (fail)
      go_wp2_with fail
      go_ret
      refine ⟨0, rfl, by decide, by decide, src_end (at_ := at_) (sd := sd) ?_ (HU.out.kept ?_) hat hs0 hs1, ?_⟩
      · exact blk_set H1.out 1 (.int .i64 ((at_ : Int) + 1))
      · exact fun k hk => blk_far (w := w) (b := p) (by omega) 1 (.int .i64 ((at_ : Int) + 1))
      · have g := grown_set (w := w) (p := p) 1 (.int .i64 ((at_ : Int) + 1))
        exact ⟨g.os, g.tape, g.output, g.size, g.block⟩
    · have h3' : ¬ (3000 : Int) < (at_ : Int) + 1 := by omega
      go_enter Tryz.func81, Tryz.ntmps81
      go_wp2_with fail
      go_quiet (fail)
      go_wp2_with fail
      go_ret
      refine ⟨(sd * 1103515245 + 12345) % 2147483648 / 65536 % 256, rfl, by omega, by omega, src_end (at_ := at_) (sd := (sd * 1103515245 + 12345) % 2147483648) ?_ (HU.out.kept ?_) hat (by omega) (by omega), ?_⟩
      · exact blk_set (blk_set H1.out 1 (.int .i64 ((at_ : Int) + 1))) 2 (.int .i64 ((sd * 1103515245 + 12345) % 2147483648))
      · exact fun k hk => (blk_far (w := w.setCell ⟨p, 1, none⟩ (.int .i64 ((at_ : Int) + 1))) (b := p) (by omega) 2 (.int .i64 ((sd * 1103515245 + 12345) % 2147483648))).trans (blk_far (w := w) (b := p) (by omega) 1 (.int .i64 ((at_ : Int) + 1)))
      · have g := grown_trans (grown_set (w := w) (p := p) 1 (.int .i64 ((at_ : Int) + 1))) (grown_set (w := w.setCell ⟨p, 1, none⟩ (.int .i64 ((at_ : Int) + 1))) (p := p) 2 (.int .i64 ((sd * 1103515245 + 12345) % 2147483648)))
        exact ⟨g.os, g.tape, g.output, g.size, g.block⟩
set_option maxHeartbeats 800000 in
/-- next of at most 256. -/
theorem next_any (n p B K : Nat) (xs : List Int) (w : World) (h : Src B w p xs K) (hB : B ≤ p) (hK : K ≤ 1000000000) (hx : xs.length ≤ 1048576) (hn : 0 < n) (hn2 : n ≤ 256) :
    Calls Tryz.prog 52 #[.pointer (some ⟨p, 0, none⟩), .int .i64 n] w fun e w' => ∃ r : Nat, e = .returned (.int .i64 r) ∧ r < n ∧ Src B w' p xs (K + 1) ∧ w.grownBy w' (some p) := by
  by_cases h1 : n ≤ 1
  · have h1' : (n : Int) ≤ 1 := by omega
    obtain ⟨v, a, s, q1, q2, q3, q4⟩ := h
    have HS : Hid (Src B w p xs (K + 1)) := ⟨v, a, s, q1, q2, by omega, q4⟩
    clear q1 q2 q3 q4
    go_enter Tryz.func52, Tryz.ntmps52
    go_wp2_with fail
    go_ret
    exact ⟨0, rfl, hn, HS.out, grown_refl _ _⟩
  · have h1' : ¬ (n : Int) ≤ 1 := by omega
    have h2' : (n : Int) ≤ 256 := by omega
    go_enter Tryz.func52, Tryz.ntmps52
    go_wp2_with fail
    refine (byte_any p B K xs _ h hB hK hx).mono ?_
    rintro e w1 ⟨r, rfl, r0, r1, s1, g1⟩
    obtain ⟨m, rfl⟩ : ∃ m : Nat, r = m := ⟨r.toNat, by omega⟩
    have hnz : ¬ (n : Int) = 0 := by omega
    have HSS : Hid (Src B w1 p xs (K + 1)) := s1
    clear s1 h
    go_wp2_with fail
    go_ret
    exact ⟨m % n, rfl, Nat.mod_lt _ hn, HSS.out, g1⟩
theorem Src.alloc {B p K : Nat} {w : World} {xs : List Int} (h : Src B w p xs K) (hB : B ≤ p) (o : Obj) : Src B (w.alloc o) p xs K :=
  h.kept (Below.heap_alloc w o p h.lt) (fun k hk => Below.heap_alloc w o k (by have := h.lt; omega))
set_option maxHeartbeats 800000 in
theorem pick_any (b n p B K : Nat) (A : Array Value) (ts : List ByteArray) (xs : List Int) (w : World) (h : Src B w p xs K) (hB : B ≤ p) (hK : K ≤ 1000000000) (hx : xs.length ≤ 1048576) (hn : 0 < n) (hn2 : n ≤ 256) (hb : w.heap[b]? = some (.cells A 9 (0, 0))) (hbp : b ≠ p) (hA : ∀ j, j < n → A[j]? = some (.string (tnth ts j))) :
    Calls Tryz.prog 51 #[.pointer (some ⟨p, 0, none⟩), .slice (some ⟨b, 0, none⟩) n n] w fun e w' => ∃ r : Nat, e = .returned (.string (tnth ts r)) ∧ r < n ∧ Src B w' p xs (K + 1) ∧ w.grownBy w' (some p) := by
  have h0 : ¬ (n : Int) = 0 := by omega
  have h0' : ((n : Int) == 0) = false := by simp; omega
  have HB : Hid (w.heap[b]? = some (.cells A 9 (0, 0))) := hb
  have HA : Hid (∀ j, j < n → A[j]? = some (.string (tnth ts j))) := hA
  clear hb hA
  go_enter Tryz.func51, Tryz.ntmps51
  go_wp2_with fail
  refine (next_any n p B K xs _ h hB hK hx hn hn2).mono ?_
  rintro e w1 ⟨r, rfl, hr, s1, g1⟩
  have HS : Hid (Src B w1 p xs (K + 1)) := s1
  have c1 := (blk_cell (blk_kept HB.out g1 hbp) r (HA.out r hr)).1
  have hr' : (r : Int) < (n : Int) := by omega
  clear s1 h
  go_wp2_with fail
  go_ret
  exact ⟨r, rfl, hr, HS.out, g1⟩
set_option maxHeartbeats 400000 in
theorem source_any (v : Value) (xs : List Int) (w : World) (h : RowB w v xs) (hx : xs.length ≤ 1048576) :
    Calls Tryz.prog 24 #[v] w fun e w' => e = .returned (.pointer (some ⟨w.heap.size, 0, none⟩)) ∧ Src w.heap.size w' w.heap.size xs 0 ∧ Below w.heap.size w w' := by
  have HU : Hid (RowU w.heap.size w v xs) := RowU.of h
  obtain ⟨a, cap, rfl, _, _⟩ := h
  go_enter Tryz.func24, Tryz.ntmps24
  go_wp2_with fail
  go_ret
  refine ⟨rfl, ⟨_, 0, (xs.length : Int) % 1000, blk_new _ _ _, HU.out.kept (fun k hk => Below.heap_alloc _ _ _ hk), Nat.le_refl _, by omega, by omega⟩, (Below.refl _ _).alloc (Nat.le_refl _) _⟩
set_option maxRecDepth 100000 in
set_option maxHeartbeats 800000 in
theorem at_any (v : Value) (xs : List Int) (i n : Nat) (w : World) (h : RowB w v xs) (hx : xs.length ≤ 1048576) (hi : i ≤ 1000) (hn : 1 < n) (hn2 : n ≤ 1000) :
    Calls Tryz.prog 6 #[v, .int .i64 i, .int .i64 n] w fun e w' => ∃ r : Nat, e = .returned (.int .i64 r) ∧ r < n ∧ Below w.heap.size w w' := by
  obtain ⟨a, cap, rfl, h, hr⟩ := h
  have h1 : ¬ (n : Int) ≤ 1 := by omega
  have h1z : ¬ (n : Int) = 0 := by omega
  by_cases h0 : xs = []
  · subst h0
    go_enter Tryz.func6, Tryz.ntmps6
    go_wp2_with fail
    go_ret
    exact ⟨i * 7 % n, rfl, Nat.mod_lt _ (by omega), Below.refl _ _⟩
  · rcases h with h | ⟨b, off, rfl, hc, hb, hcell⟩
    · exact absurd h h0
    have hpos : 0 < xs.length := by cases xs with | nil => exact absurd rfl h0 | cons x l => simp
    have e0 : ((xs.length : Int) == 0) = false := by simp; omega
    have e1 : ¬ (xs.length : Int) = 0 := by omega
    have j1 : i % xs.length < xs.length := Nat.mod_lt _ hpos
    have j2 : (i + 1) % xs.length < xs.length := Nat.mod_lt _ hpos
    have c1 := hcell _ j1
    have c2 := hcell _ j2
    have r1 := range_at hr (i % xs.length)
    have r2 := range_at hr ((i + 1) % xs.length)
    have k1 : (i : Int) % (xs.length : Int) = ((i % xs.length : Nat) : Int) := by omega
    have k2 : ((i : Int) + 1) % (xs.length : Int) = (((i + 1) % xs.length : Nat) : Int) := by rw [Int.natCast_emod, Int.natCast_add]; rfl
    have k3 : (i : Int) / (xs.length : Int) = ((i / xs.length : Nat) : Int) := by rw [Int.natCast_ediv]
    have k4 : i / xs.length ≤ i := Nat.div_le_self _ _
    have q1 : ((i % xs.length : Nat) : Int) < (xs.length : Int) := by omega
    have q2 : (((i + 1) % xs.length : Nat) : Int) < (xs.length : Int) := by omega
    obtain ⟨y1, hy1⟩ : ∃ y1 : Nat, nth xs (i % xs.length) = y1 := ⟨(nth xs (i % xs.length)).toNat, by omega⟩
    obtain ⟨y2, hy2⟩ : ∃ y2 : Nat, nth xs ((i + 1) % xs.length) = y2 := ⟨(nth xs ((i + 1) % xs.length)).toNat, by omega⟩
    rw [hy1] at c1 r1
    rw [hy2] at c2 r2
    have z1 : (y1 : Int) ≤ 255 := r1.2
    have z2 : (y2 : Int) ≤ 255 := r2.2
    have z3 : ((i / xs.length : Nat) : Int) ≤ 1000 := by omega
    clear hcell hr h0 hy1 hy2 r1 r2 j1 j2
    generalize i % xs.length = p at c1 k1 q1
    generalize (i + 1) % xs.length = q at c2 k2 q2
    generalize i / xs.length = d at k3 k4 z3
    go_enter Tryz.func6, Tryz.ntmps6
    go_wp2_with fail
    go_quiet (fail)
    go_wp2_with fail
    go_ret
    exact ⟨(y1 * 31 + y2 + d) % n, rfl, Nat.mod_lt _ (by omega), ⟨rfl, rfl, rfl, Nat.le_refl _, fun _ _ => rfl⟩⟩
end Go.Proofs.YtiflfcpoajijaaaGreatDoor.Gn

/- Grants are drawn. -/
namespace Go.Proofs.YtiflfcpoajijaaaGreatDoor.Gn
open Go.RowKit Go.Proofs.YtiflfcpoajijaaaGreatDoor.Sl Go.Proofs.YtiflfcpoajijaaaGreatDoor.By Go.Proofs.YtiflfcpoajijaaaGreatDoor.Ap Go.Proofs.YtiflfcpoajijaaaGreatDoor.Tx
open Go.Proofs.YtiflfcpoajijaaaGreatDoor.Gr12 (Gg gV grB)

theorem gbel {w w' : World} {p : Nat} (hg : w.grownBy w' (some p)) (hp : p < w.heap.size) : Below p w w' := ⟨hg.os, hg.tape, hg.output, hg.size, fun k hk => hg.block k (by omega) (by simp; omega)⟩
/-- The names that are drawn. -/
def gnS : List ByteArray := [⟨#[97]⟩, ⟨#[98]⟩, ⟨#[108, 111, 99, 107]⟩]
theorem gn_ok {r : Nat} (hr : r < 3) : Rq.opB (tnth gnS r) = true := by
  rcases (by omega : r = 0 ∨ r = 1 ∨ r = 2) with rfl | rfl | rfl <;> decide
theorem g_right {s : ByteArray} (hs : Rq.opB s = true) {r1 r2 r3 : Nat} (h1 : r1 < 3) (h2 : r2 < 3) (h3 : r3 < 3) : grB ⟨s, (r1 : Int), 1 + (r2 : Int), (r3 : Int) * 10⟩ = true := by
  unfold grB Rq.inB
  simp only [hs, Bool.true_and, Bool.and_eq_true, decide_eq_true_eq]
  omega
set_option maxRecDepth 100000 in
set_option maxHeartbeats 1600000 in
theorem grant_any (p B K : Nat) (xs : List Int) (w : World) (h : Src B w p xs K) (hB : B ≤ p) (hK : K ≤ 1000) (hx : xs.length ≤ 1048576) :
    Calls Tryz.prog 25 #[.pointer (some ⟨p, 0, none⟩)] w fun e w' => ∃ g : Gg, e = .returned (gV g) ∧ grB g = true ∧ Below p w w' := by
  have hp := h.lt
  have HS0 : Hid (Src B w p xs K) := h
  have HPW : Hid (p < w.heap.size) := hp
  have e1 : (w.alloc (.cells #[.string ⟨#[]⟩, .int .i64 0, .int .i64 0, .int .i64 0] 24)).heap.size = w.heap.size + 1 := by simp
  have HZ0 : Hid ((w.alloc (.cells #[.string ⟨#[]⟩, .int .i64 0, .int .i64 0, .int .i64 0] 24)).heap[w.heap.size]? = some (.cells #[.string ⟨#[]⟩, .int .i64 0, .int .i64 0, .int .i64 0] 24 (0, 0))) := heap_alloc_new w _
  have S1 : Hid (Src B ((w.alloc (.cells #[.string ⟨#[]⟩, .int .i64 0, .int .i64 0, .int .i64 0] 24)).alloc (.cells #[.string ⟨#[97]⟩, .string ⟨#[98]⟩, .string ⟨#[108, 111, 99, 107]⟩] 9)) p xs K) := (h.alloc hB _).alloc hB _
  have L1 : Hid (((w.alloc (.cells #[.string ⟨#[]⟩, .int .i64 0, .int .i64 0, .int .i64 0] 24)).alloc (.cells #[.string ⟨#[97]⟩, .string ⟨#[98]⟩, .string ⟨#[108, 111, 99, 107]⟩] 9)).heap[w.heap.size + 1]? = some (.cells #[.string ⟨#[97]⟩, .string ⟨#[98]⟩, .string ⟨#[108, 111, 99, 107]⟩] 9 (0, 0))) := by
    show _ = _
    have := heap_alloc_new (w.alloc (.cells #[.string ⟨#[]⟩, .int .i64 0, .int .i64 0, .int .i64 0] 24)) (.cells #[.string ⟨#[97]⟩, .string ⟨#[98]⟩, .string ⟨#[108, 111, 99, 107]⟩] 9)
    rwa [e1] at this
  have Z1 : Hid (((w.alloc (.cells #[.string ⟨#[]⟩, .int .i64 0, .int .i64 0, .int .i64 0] 24)).alloc (.cells #[.string ⟨#[97]⟩, .string ⟨#[98]⟩, .string ⟨#[108, 111, 99, 107]⟩] 9)).heap[w.heap.size]? = some (.cells #[.string ⟨#[]⟩, .int .i64 0, .int .i64 0, .int .i64 0] 24 (0, 0))) := ((Gr12.bel1 (w.alloc (.cells #[.string ⟨#[]⟩, .int .i64 0, .int .i64 0, .int .i64 0] 24)) (.cells #[.string ⟨#[97]⟩, .string ⟨#[98]⟩, .string ⟨#[108, 111, 99, 107]⟩] 9)).block _ (by rw [e1]; omega)).trans HZ0.out
  have B1 : Hid (Below p w ((w.alloc (.cells #[.string ⟨#[]⟩, .int .i64 0, .int .i64 0, .int .i64 0] 24)).alloc (.cells #[.string ⟨#[97]⟩, .string ⟨#[98]⟩, .string ⟨#[108, 111, 99, 107]⟩] 9)) ∧ w.heap.size + 1 < ((w.alloc (.cells #[.string ⟨#[]⟩, .int .i64 0, .int .i64 0, .int .i64 0] 24)).alloc (.cells #[.string ⟨#[97]⟩, .string ⟨#[98]⟩, .string ⟨#[108, 111, 99, 107]⟩] 9)).heap.size) := ⟨(((Gr12.bel1 w _).trans ((Gr12.bel1 _ _).mono (Gr12.bel1 w _).size))).mono (by omega), by simp⟩
  clear h hp e1 HZ0
  go_enter Tryz.func25, Tryz.ntmps25
  go_wp2_with fail
  generalize (w.alloc (.cells #[.string ⟨#[]⟩, .int .i64 0, .int .i64 0, .int .i64 0] 24)).alloc (.cells #[.string ⟨#[97]⟩, .string ⟨#[98]⟩, .string ⟨#[108, 111, 99, 107]⟩] 9) = wa at S1 L1 Z1 B1 ⊢
  refine (pick_any (w.heap.size + 1) 3 p B K _ gnS xs wa S1.out hB (by omega) hx (by decide) (by decide) L1.out (by have := HPW.out; omega) (fun j hj => by
      match j, hj with
      | 0, _ => rfl
      | 1, _ => rfl
      | 2, _ => rfl)).mono ?_
  rintro e w2 ⟨r, rfl, hr, s2, g2⟩
  have HSO : Hid (Rq.opB (tnth gnS r) = true) := gn_ok hr
  have P2 : Hid (Src B w2 p xs (K + 1) ∧ w2.heap[w.heap.size]? = some (.cells #[.string ⟨#[]⟩, .int .i64 0, .int .i64 0, .int .i64 0] 24 (0, 0)) ∧ Below p w w2) := ⟨s2, (g2.block _ (by have := B1.out.2; omega) (by simp; have := HPW.out; omega)).trans Z1.out, B1.out.1.trans (gbel g2 (by have := HPW.out; have := B1.out.2; omega))⟩
  generalize tnth gnS r = s at HSO
  clear hr s2 g2
  go_wp2_with fail
  refine (next_any 3 p B (K + 1) xs w2 P2.out.1 hB (by omega) hx (by decide) (by decide)).mono ?_
  rintro e w3 ⟨r1, rfl, hr1, s3, g3⟩
  have P3 : Hid (Src B w3 p xs (K + 1 + 1) ∧ w3.heap[w.heap.size]? = some (.cells #[.string ⟨#[]⟩, .int .i64 0, .int .i64 0, .int .i64 0] 24 (0, 0)) ∧ Below p w w3) := ⟨s3, (g3.block _ (Array.getElem?_eq_some_iff.1 P2.out.2.1).1 (by simp; have := HPW.out; omega)).trans P2.out.2.1, P2.out.2.2.trans (gbel g3 P2.out.1.lt)⟩
  clear s3 g3
  go_wp2_with fail
  refine (next_any 3 p B (K + 1 + 1) xs w3 P3.out.1 hB (by omega) hx (by decide) (by decide)).mono ?_
  rintro e w4 ⟨r2, rfl, hr2, s4, g4⟩
  have P4 : Hid (Src B w4 p xs (K + 1 + 1 + 1) ∧ w4.heap[w.heap.size]? = some (.cells #[.string ⟨#[]⟩, .int .i64 0, .int .i64 0, .int .i64 0] 24 (0, 0)) ∧ Below p w w4) := ⟨s4, (g4.block _ (Array.getElem?_eq_some_iff.1 P3.out.2.1).1 (by simp; have := HPW.out; omega)).trans P3.out.2.1, P3.out.2.2.trans (gbel g4 P3.out.1.lt)⟩
  clear s4 g4
  have hr2I : (r2 : Int) < 3 := by omega
  go_wp2_with fail
  refine (next_any 3 p B (K + 1 + 1 + 1) xs w4 P4.out.1 hB (by omega) hx (by decide) (by decide)).mono ?_
  rintro e w5 ⟨r3, rfl, hr3, s5, g5⟩
  have AX : Hid (w5.heap[w.heap.size]? = some (.cells #[.string ⟨#[]⟩, .int .i64 0, .int .i64 0, .int .i64 0] 24 (0, 0))) := (g5.block _ (Array.getElem?_eq_some_iff.1 P4.out.2.1).1 (by simp; have := HPW.out; omega)).trans P4.out.2.1
  have GX : Hid (Below p w w5) := P4.out.2.2.trans (gbel g5 P4.out.1.lt)
  have HR : Hid (grB ⟨s, (r1 : Int), 1 + (r2 : Int), (r3 : Int) * 10⟩ = true) := g_right HSO.out hr1 hr2 hr3
  have HLE : Hid (p ≤ w.heap.size) := Nat.le_of_lt HPW.out
  have hr3I : (r3 : Int) < 3 := by omega
  clear s5 g5 P2 P3 P4 S1 L1 Z1 B1
  obtain ⟨zc0, zf0⟩ := blk_cell AX.out 0 (x := .string ⟨#[]⟩) rfl
  obtain ⟨zc1, zf1⟩ := blk_cell AX.out 1 (x := .int .i64 0) rfl
  obtain ⟨zc2, zf2⟩ := blk_cell AX.out 2 (x := .int .i64 0) rfl
  obtain ⟨zc3, zf3⟩ := blk_cell AX.out 3 (x := .int .i64 0) rfl
  have AF : ((((w5.setCell ⟨w.heap.size, 0, none⟩ (.string s)).setCell ⟨w.heap.size, 1, none⟩ (.int .i64 (r1 : Int))).setCell ⟨w.heap.size, 2, none⟩ (.int .i64 (1 + (r2 : Int)))).setCell ⟨w.heap.size, 3, none⟩ (.int .i64 ((r3 : Int) * 10))).heap[w.heap.size]? = some (.cells #[.string s, .int .i64 (r1 : Int), .int .i64 (1 + (r2 : Int)), .int .i64 ((r3 : Int) * 10)] 24 (0, 0)) := (blk_set (blk_set (blk_set (blk_set AX.out 0 (.string s)) 1 (.int .i64 (r1 : Int))) 2 (.int .i64 (1 + (r2 : Int)))) 3 (.int .i64 ((r3 : Int) * 10)))
  have GF : Below p w ((((w5.setCell ⟨w.heap.size, 0, none⟩ (.string s)).setCell ⟨w.heap.size, 1, none⟩ (.int .i64 (r1 : Int))).setCell ⟨w.heap.size, 2, none⟩ (.int .i64 (1 + (r2 : Int)))).setCell ⟨w.heap.size, 3, none⟩ (.int .i64 ((r3 : Int) * 10))) := (Below.setCell (Below.setCell (Below.setCell (Below.setCell GX.out (p := ⟨w.heap.size, 0, none⟩) HLE.out (.string s)) (p := ⟨w.heap.size, 1, none⟩) HLE.out (.int .i64 (r1 : Int))) (p := ⟨w.heap.size, 2, none⟩) HLE.out (.int .i64 (1 + (r2 : Int)))) (p := ⟨w.heap.size, 3, none⟩) HLE.out (.int .i64 ((r3 : Int) * 10)))
  go_wp2_with fail
  generalize ((((w5.setCell ⟨w.heap.size, 0, none⟩ (.string s)).setCell ⟨w.heap.size, 1, none⟩ (.int .i64 (r1 : Int))).setCell ⟨w.heap.size, 2, none⟩ (.int .i64 (1 + (r2 : Int)))).setCell ⟨w.heap.size, 3, none⟩ (.int .i64 ((r3 : Int) * 10))) = wf at AF GF ⊢
  have d0 := (blk_cell AF 0 (x := .string s) rfl).1
  have d1 := (blk_cell AF 1 (x := .int .i64 (r1 : Int)) rfl).1
  have d2 := (blk_cell AF 2 (x := .int .i64 (1 + (r2 : Int))) rfl).1
  have d3 := (blk_cell AF 3 (x := .int .i64 ((r3 : Int) * 10)) rfl).1
  exact bodyPost_ret (v := .agg #[.string s, .int .i64 (r1 : Int), .int .i64 (1 + (r2 : Int)), .int .i64 ((r3 : Int) * 10)]) (by simp [results, Tryz.results25, go_sem, d0, d1, d2, d3]) rfl ⟨⟨s, (r1 : Int), 1 + (r2 : Int), (r3 : Int) * 10⟩, rfl, HR.out, GF⟩
set_option maxRecDepth 100000 in
set_option maxHeartbeats 1600000 in
theorem GrantOf_any (v : Value) (xs : List Int) (w : World) (h : RowB w v xs) (hx : xs.length ≤ 1048576) :
    Calls Tryz.prog 5 #[v] w fun e w' => ∃ g : Gg, e = .returned (gV g) ∧ grB g = true ∧ Below w.heap.size w w' := by
  have HZ : Hid (∀ W, Below (w.alloc (.cells #[.string ⟨#[]⟩, .int .i64 0, .int .i64 0, .int .i64 0] 24)).heap.size (w.alloc (.cells #[.string ⟨#[]⟩, .int .i64 0, .int .i64 0, .int .i64 0] 24)) W → W.heap[w.heap.size]? = some (.cells #[.string ⟨#[]⟩, .int .i64 0, .int .i64 0, .int .i64 0] 24 (0, 0)) ∧ Below w.heap.size w W) := fun W hW => ⟨(hW.block w.heap.size (by simp)).trans (heap_alloc_new w _), (Gr12.bel1 w _).trans (hW.mono (by simp))⟩
  have HS := source_any v xs (w.alloc (.cells #[.string ⟨#[]⟩, .int .i64 0, .int .i64 0, .int .i64 0] 24)) (h.below (Gr12.bel1 w _)) hx
  clear h
  go_enter Tryz.func5, Tryz.ntmps5
  go_wp2_with fail
  generalize w.alloc (.cells #[.string ⟨#[]⟩, .int .i64 0, .int .i64 0, .int .i64 0] 24) = wa at HZ HS ⊢
  refine HS.mono ?_
  rintro e w1 ⟨rfl, s1, b1⟩
  have B1 : Hid (Src wa.heap.size w1 wa.heap.size xs 0 ∧ Below wa.heap.size wa w1) := ⟨s1, b1⟩
  clear s1 b1 HS
  go_wp2_with fail
  refine (grant_any wa.heap.size wa.heap.size 0 xs w1 B1.out.1 (Nat.le_refl _) (by decide) hx).mono ?_
  rintro e w2 ⟨g, rfl, hg, b2⟩
  have B2 : Hid (Below wa.heap.size wa w2) := B1.out.2.trans b2
  have HG : Hid (grB g = true) := hg
  have AX : Hid (w2.heap[w.heap.size]? = some (.cells #[.string ⟨#[]⟩, .int .i64 0, .int .i64 0, .int .i64 0] 24 (0, 0))) := (HZ.out _ B2.out).1
  have GX : Hid (Below w.heap.size w w2) := (HZ.out _ B2.out).2
  clear b2 hg
  unfold gV
  obtain ⟨zc0, zf0⟩ := blk_cell AX.out 0 (x := .string ⟨#[]⟩) rfl
  obtain ⟨zc1, zf1⟩ := blk_cell AX.out 1 (x := .int .i64 0) rfl
  obtain ⟨zc2, zf2⟩ := blk_cell AX.out 2 (x := .int .i64 0) rfl
  obtain ⟨zc3, zf3⟩ := blk_cell AX.out 3 (x := .int .i64 0) rfl
  have AF : ((((w2.setCell ⟨w.heap.size, 0, none⟩ (.string g.nm)).setCell ⟨w.heap.size, 1, none⟩ (.int .i64 g.hd)).setCell ⟨w.heap.size, 2, none⟩ (.int .i64 g.tk)).setCell ⟨w.heap.size, 3, none⟩ (.int .i64 g.ex)).heap[w.heap.size]? = some (.cells #[.string g.nm, .int .i64 g.hd, .int .i64 g.tk, .int .i64 g.ex] 24 (0, 0)) := (blk_set (blk_set (blk_set (blk_set AX.out 0 (.string g.nm)) 1 (.int .i64 g.hd)) 2 (.int .i64 g.tk)) 3 (.int .i64 g.ex))
  have GF : Below w.heap.size w ((((w2.setCell ⟨w.heap.size, 0, none⟩ (.string g.nm)).setCell ⟨w.heap.size, 1, none⟩ (.int .i64 g.hd)).setCell ⟨w.heap.size, 2, none⟩ (.int .i64 g.tk)).setCell ⟨w.heap.size, 3, none⟩ (.int .i64 g.ex)) := (Below.setCell (Below.setCell (Below.setCell (Below.setCell GX.out (p := ⟨w.heap.size, 0, none⟩) (Nat.le_refl _) (.string g.nm)) (p := ⟨w.heap.size, 1, none⟩) (Nat.le_refl _) (.int .i64 g.hd)) (p := ⟨w.heap.size, 2, none⟩) (Nat.le_refl _) (.int .i64 g.tk)) (p := ⟨w.heap.size, 3, none⟩) (Nat.le_refl _) (.int .i64 g.ex))
  go_wp2_with fail
  generalize ((((w2.setCell ⟨w.heap.size, 0, none⟩ (.string g.nm)).setCell ⟨w.heap.size, 1, none⟩ (.int .i64 g.hd)).setCell ⟨w.heap.size, 2, none⟩ (.int .i64 g.tk)).setCell ⟨w.heap.size, 3, none⟩ (.int .i64 g.ex)) = wf at AF GF ⊢
  have d0 := (blk_cell AF 0 (x := .string g.nm) rfl).1
  have d1 := (blk_cell AF 1 (x := .int .i64 g.hd) rfl).1
  have d2 := (blk_cell AF 2 (x := .int .i64 g.tk) rfl).1
  have d3 := (blk_cell AF 3 (x := .int .i64 g.ex) rfl).1
  exact bodyPost_ret (v := .agg #[.string g.nm, .int .i64 g.hd, .int .i64 g.tk, .int .i64 g.ex]) (by simp [results, Tryz.results5, go_sem, d0, d1, d2, d3]) rfl ⟨g, rfl, HG.out, GF⟩
end Go.Proofs.YtiflfcpoajijaaaGreatDoor.Gn
