/- Requests that the source draws. -/
import Derived.Test.YtdeologdmdimoaaDoorGq
import Derived.Test.YtdeologdmdimoaaDoorReqPut
import Derived.Test.YtdeologdmdimoaaDoorBo
namespace Go.Proofs.YtdeologdmdimoaaDoor.Gn
open Go.RowKit Go.Proofs.YtdeologdmdimoaaDoor.Sl Go.Proofs.YtdeologdmdimoaaDoor.By Go.Proofs.YtdeologdmdimoaaDoor.Ap Go.Proofs.YtdeologdmdimoaaDoor.Rq Go.Proofs.YtdeologdmdimoaaDoor.Rr Go.Proofs.YtdeologdmdimoaaDoor.Ty

theorem Src.set {B p b K : Nat} {w : World} {xs : List Int} (h : Src B w p xs K) (hb : p ≠ b) (hB : B ≤ b) (i : Nat) (x : Value) : Src B (w.setCell ⟨b, i, none⟩ x) p xs K :=
  h.kept (blk_far hb i x) (fun k hk => blk_far (by omega) i x)
theorem req_ok {c st k l : Int} {n : ByteArray} (h1 : inB c 0 255 = true) (h2 : inB st 1 65535 = true) (h3 : leB k l = true) (h4 : opB n = true) : reqB c st k l n = true := by
  unfold reqB; rw [h1, h2, h3, h4]; rfl
theorem Src.le {B p K K' : Nat} {w : World} {xs : List Int} (h : Src B w p xs K) (hk : K ≤ K') : Src B w p xs K' := by
  obtain ⟨v, a, s, q1, q2, q3, q4⟩ := h
  exact ⟨v, a, s, q1, q2, by omega, q4⟩
set_option maxHeartbeats 400000 in
theorem chance_any (n p B K : Nat) (xs : List Int) (w : World) (h : Src B w p xs K) (hB : B ≤ p) (hK : K ≤ 1000000000) (hx : xs.length ≤ 1048576) (hn : 0 < n) (hn2 : n ≤ 256) :
    Calls Tryd.prog 64 #[.pointer (some ⟨p, 0, none⟩), .int .i64 n] w fun e w' => ∃ b : Bool, e = .returned (.bool b) ∧ Src B w' p xs (K + 1) ∧ w.grownBy w' (some p) := by
  have hn3 : (n : Int) ≤ 256 := by omega
  go_enter Tryd.func64, Tryd.ntmps64
  go_wp2_with fail
  refine (next_any n p B K xs _ h hB hK hx hn hn2).mono ?_
  rintro e w1 ⟨r, rfl, hr, s1, g1⟩
  have S1 : Hid (Src B w1 p xs (K + 1)) := s1
  clear s1 h
  go_wp2_with fail
  go_ret
  exact ⟨_, rfl, S1.out, g1⟩
def lk3 : List ByteArray := [⟨#[97]⟩, ⟨#[98]⟩, ⟨#[108, 111, 99, 107]⟩]
theorem lk3_ok (r : Nat) (h : r < 3) : opB (tnth lk3 r) = true := by
  match r, h with
  | 0, _ => decide
  | 1, _ => decide
  | 2, _ => decide
set_option maxRecDepth 100000 in
set_option maxHeartbeats 1600000 in
theorem request_any (p B K : Nat) (xs : List Int) (w : World) (h : Src B w p xs K) (hB : B ≤ p) (hK : K ≤ 1000000) (hx : xs.length ≤ 1048576) :
    Calls Tryd.prog 65 #[.pointer (some ⟨p, 0, none⟩)] w fun e w' => ∃ (c st k l : Int) (n : ByteArray), e = .returned (.agg #[.int .i64 c, .int .i64 st, .int .i64 k, .int .i64 l, .string n]) ∧ reqB c st k l n = true ∧ Src B w' p xs (K + 5) ∧ w.grownBy w' (some p) := by
  have hp := h.lt
  have S0 : Hid (Src B (w.alloc (.cells zreq 71)) p xs K) := h.alloc hB _
  have G0 : Hid (w.grownBy (w.alloc (.cells zreq 71)) (some p)) := grown_alloc (grown_refl _ _) _
  have A0 : Hid ((w.alloc (.cells zreq 71)).heap[w.heap.size]? = some (.cells zreq 71 (0, 0))) := blk_new _ _ _
  clear h
  go_enter Tryd.func65, Tryd.ntmps65
  go_wp2_with fail
  refine (next_any 3 p B K xs _ S0.out hB (by omega) hx (by decide) (by decide)).mono ?_
  rintro e w1 ⟨c, rfl, hc, s1, g1⟩
  have S1 : Hid (Src B w1 p xs (K + 1)) := s1
  have G1 : Hid (w.grownBy w1 (some p)) := grown_trans G0.out g1
  have A1 : Hid (w1.heap[w.heap.size]? = some (.cells zreq 71 (0, 0))) := blk_kept A0.out g1 (by omega)
  clear s1 g1 S0 G0 A0
  go_wp2_with fail
  refine (next_any 5 p B (K + 1) xs _ S1.out hB (by omega) hx (by decide) (by decide)).mono ?_
  rintro e w2 ⟨st, rfl, hst, s2, g2⟩
  have S2 : Hid (Src B w2 p xs (K + 2)) := s2
  have G2 : Hid (w.grownBy w2 (some p)) := grown_trans G1.out g2
  have A2 : Hid (w2.heap[w.heap.size]? = some (.cells zreq 71 (0, 0))) := blk_kept A1.out g2 (by omega)
  clear s2 g2 S1 G1 A1
  go_wp2_with fail
  refine (next_any 4 p B (K + 2) xs _ S2.out hB (by omega) hx (by decide) (by decide)).mono ?_
  rintro e w3 ⟨k, rfl, hk, s3, g3⟩
  have S3 : Hid (Src B (w3.alloc (.cells #[.string ⟨#[97]⟩, .string ⟨#[98]⟩, .string ⟨#[108, 111, 99, 107]⟩] 9)) p xs (K + 3)) := s3.alloc hB _
  have G3 : Hid (w.grownBy (w3.alloc (.cells #[.string ⟨#[97]⟩, .string ⟨#[98]⟩, .string ⟨#[108, 111, 99, 107]⟩] 9)) (some p)) := grown_alloc (grown_trans G2.out g3) _
  have l3 : w.heap.size < w3.heap.size := (Array.getElem?_eq_some_iff.1 (blk_kept A2.out g3 (by omega))).1
  have A3 : Hid ((w3.alloc (.cells #[.string ⟨#[97]⟩, .string ⟨#[98]⟩, .string ⟨#[108, 111, 99, 107]⟩] 9)).heap[w.heap.size]? = some (.cells zreq 71 (0, 0))) := (Below.heap_alloc _ _ _ l3).trans (blk_kept A2.out g3 (by omega))
  have hp3 := s3.lt
  clear s3 g3 S2 G2 A2
  go_wp2_with fail
  refine (pick_any w3.heap.size 3 p B (K + 3) _ lk3 xs _ S3.out hB (by omega) hx (by decide) (by decide) (blk_new _ _ _) (by omega) ?_).mono ?_
  · intro j hj
    match j, hj with
    | 0, _ => rfl
    | 1, _ => rfl
    | 2, _ => rfl
  rintro e w4 ⟨r, rfl, hr, s4, g4⟩
  have S4 : Hid (Src B w4 p xs (K + 4)) := s4
  have G4 : Hid (w.grownBy w4 (some p)) := grown_trans G3.out g4
  have A4 : Hid (w4.heap[w.heap.size]? = some (.cells zreq 71 (0, 0))) := blk_kept A3.out g4 (by omega)
  have HO : Hid (opB (tnth lk3 r) = true) := lk3_ok r hr
  have l4 : w.heap.size < w4.heap.size := (Array.getElem?_eq_some_iff.1 A4.out).1
  have hp4 := s4.lt
  clear s4 g4 S3 G3 A3 hp3 l3
  generalize tnth lk3 r = n at HO ⊢
  have A5 : Hid ((w4.alloc (.cells #[.int .i64 c, .int .i64 (1 + st), .int .i64 (1 + k), .int .i64 0, .string n] 71)).heap[w.heap.size]? = some (.cells zreq 71 (0, 0))) := (Below.heap_alloc _ _ _ l4).trans A4.out
  have B5 : Hid ((w4.alloc (.cells #[.int .i64 c, .int .i64 (1 + st), .int .i64 (1 + k), .int .i64 0, .string n] 71)).heap[w4.heap.size]? = some (.cells #[.int .i64 c, .int .i64 (1 + st), .int .i64 (1 + k), .int .i64 0, .string n] 71 (0, 0))) := blk_new _ _ _
  have S5 : Hid (Src B (w4.alloc (.cells #[.int .i64 c, .int .i64 (1 + st), .int .i64 (1 + k), .int .i64 0, .string n] 71)) p xs (K + 4)) := S4.out.alloc hB _
  have G5 : Hid (w.grownBy (w4.alloc (.cells #[.int .i64 c, .int .i64 (1 + st), .int .i64 (1 + k), .int .i64 0, .string n] 71)) (some p)) := grown_alloc G4.out _
  go_upto_region 2 with fail
  generalize w4.alloc (.cells #[.int .i64 c, .int .i64 (1 + st), .int .i64 (1 + k), .int .i64 0, .string n] 71) = w5 at A5 B5 S5 G5 ⊢
  clear A4 S4 G4
  generalize w4.heap.size = x at B5 l4 hp4 ⊢
  have HC : Hid (inB c 0 255 = true) := decide_eq_true ⟨by omega, by omega⟩
  have HT : Hid (inB (1 + (st : Int)) 1 65535 = true) := decide_eq_true ⟨by omega, by omega⟩
  obtain ⟨kd, hkd⟩ : ∃ kd : Int, (1 : Int) + (k : Int) = kd := ⟨_, rfl⟩
  rw [hkd] at B5 ⊢
  have hkr : 1 ≤ kd ∧ kd ≤ 4 := by omega
  clear hkd
  have x2 := (blk_cell B5.out 2 (x := .int .i64 kd) rfl).1
  by_cases hle : kd = 1 ∨ kd = 3
  · have HL : Hid (∀ l : Nat, l < 30 → leB kd (1 + (l : Int)) = true) := fun l hl => decide_eq_true (.inl ⟨hle, by omega, by omega⟩)
    have hq : (kd == 1 || kd == 3) = true := by rcases hle with h | h <;> simp [h]
    obtain ⟨x3, y3⟩ := blk_cell B5.out 3 (x := .int .i64 0) rfl
    rcases hle with rfl | rfl
    · clear hq
      go_wp2_with fail
      refine (next_any 30 p B (K + 4) xs _ S5.out hB (by omega) hx (by decide) (by decide)).mono ?_
      rintro e w6 ⟨l, rfl, hl, s6, g6⟩
      have a6 := blk_kept A5.out g6 (by omega)
      have b6 := blk_kept B5.out g6 (by omega)
      obtain ⟨z3, t3⟩ := blk_cell b6 3 (x := .int .i64 0) rfl
      have AZ : Hid ((w6.setCell ⟨x, 3, none⟩ (.int .i64 (1 + l))).heap[w.heap.size]? = some (.cells zreq 71 (0, 0))) := (blk_far (by omega) 3 _).trans a6
      have BZ : Hid ((w6.setCell ⟨x, 3, none⟩ (.int .i64 (1 + l))).heap[x]? = some (.cells #[.int .i64 c, .int .i64 (1 + st), .int .i64 1, .int .i64 (1 + l), .string n] 71 (0, 0))) := blk_set b6 3 _
      have SZ : Hid (Src B (w6.setCell ⟨x, 3, none⟩ (.int .i64 (1 + l))) p xs (K + 5)) := Src.set s6 (by omega) (by omega) 3 _
      have GZ : Hid (w.grownBy (w6.setCell ⟨x, 3, none⟩ (.int .i64 (1 + l))) (some p)) := grown_new (grown_trans G5.out g6) (by omega) 3 _
      clear a6 b6 s6 g6 A5 B5 S5 G5 x2 x3 y3
      go_upto_region 4 with fail
      generalize w6.setCell ⟨x, 3, none⟩ (.int .i64 (1 + l)) = wz at AZ BZ SZ GZ ⊢
      clear z3 t3
      obtain ⟨ca0, fa0⟩ := blk_cell AZ.out 0 (x := .int .i64 0) rfl
      have cb0 := (blk_cell BZ.out 0 (x := .int .i64 c) rfl).1
      obtain ⟨ca1, fa1⟩ := blk_cell AZ.out 1 (x := .int .i64 0) rfl
      have cb1 := (blk_cell BZ.out 1 (x := .int .i64 (1 + st)) rfl).1
      obtain ⟨ca2, fa2⟩ := blk_cell AZ.out 2 (x := .int .i64 0) rfl
      have cb2 := (blk_cell BZ.out 2 (x := .int .i64 1) rfl).1
      obtain ⟨ca3, fa3⟩ := blk_cell AZ.out 3 (x := .int .i64 0) rfl
      have cb3 := (blk_cell BZ.out 3 (x := .int .i64 (1 + l)) rfl).1
      obtain ⟨ca4, fa4⟩ := blk_cell AZ.out 4 (x := .string ⟨#[]⟩) rfl
      have cb4 := (blk_cell BZ.out 4 (x := .string n) rfl).1
      have AF : ((((((wz.setCell ⟨w.heap.size, 0, none⟩ (.int .i64 c)).setCell ⟨w.heap.size, 1, none⟩ (.int .i64 (1 + st))).setCell ⟨w.heap.size, 2, none⟩ (.int .i64 1)).setCell ⟨w.heap.size, 3, none⟩ (.int .i64 (1 + l))).setCell ⟨w.heap.size, 4, none⟩ (.string n))).heap[w.heap.size]? = some (.cells #[.int .i64 c, .int .i64 (1 + st), .int .i64 1, .int .i64 (1 + l), .string n] 71 (0, 0)) := (blk_set (blk_set (blk_set (blk_set (blk_set AZ.out 0 (.int .i64 c)) 1 (.int .i64 (1 + st))) 2 (.int .i64 1)) 3 (.int .i64 (1 + l))) 4 (.string n))
      have GF : Hid (w.grownBy (((((wz.setCell ⟨w.heap.size, 0, none⟩ (.int .i64 c)).setCell ⟨w.heap.size, 1, none⟩ (.int .i64 (1 + st))).setCell ⟨w.heap.size, 2, none⟩ (.int .i64 1)).setCell ⟨w.heap.size, 3, none⟩ (.int .i64 (1 + l))).setCell ⟨w.heap.size, 4, none⟩ (.string n)) (some p)) := (grown_new (grown_new (grown_new (grown_new (grown_new GZ.out (Nat.le_refl _) 0 (.int .i64 c)) (Nat.le_refl _) 1 (.int .i64 (1 + st))) (Nat.le_refl _) 2 (.int .i64 1)) (Nat.le_refl _) 3 (.int .i64 (1 + l))) (Nat.le_refl _) 4 (.string n))
      have SF : Hid (Src B (((((wz.setCell ⟨w.heap.size, 0, none⟩ (.int .i64 c)).setCell ⟨w.heap.size, 1, none⟩ (.int .i64 (1 + st))).setCell ⟨w.heap.size, 2, none⟩ (.int .i64 1)).setCell ⟨w.heap.size, 3, none⟩ (.int .i64 (1 + l))).setCell ⟨w.heap.size, 4, none⟩ (.string n)) p xs (K + 5)) := (Src.set (Src.set (Src.set (Src.set (Src.set SZ.out (by omega) (by omega) 0 (.int .i64 c)) (by omega) (by omega) 1 (.int .i64 (1 + st))) (by omega) (by omega) 2 (.int .i64 1)) (by omega) (by omega) 3 (.int .i64 (1 + l))) (by omega) (by omega) 4 (.string n))
      go_wp2_with fail
      generalize (((((wz.setCell ⟨w.heap.size, 0, none⟩ (.int .i64 c)).setCell ⟨w.heap.size, 1, none⟩ (.int .i64 (1 + st))).setCell ⟨w.heap.size, 2, none⟩ (.int .i64 1)).setCell ⟨w.heap.size, 3, none⟩ (.int .i64 (1 + l))).setCell ⟨w.heap.size, 4, none⟩ (.string n)) = wf at AF GF SF ⊢
      have d0 := (blk_cell AF 0 (x := .int .i64 c) rfl).1
      have d1 := (blk_cell AF 1 (x := .int .i64 (1 + st)) rfl).1
      have d2 := (blk_cell AF 2 (x := .int .i64 1) rfl).1
      have d3 := (blk_cell AF 3 (x := .int .i64 (1 + l)) rfl).1
      have d4 := (blk_cell AF 4 (x := .string n) rfl).1
      exact bodyPost_ret (v := .agg #[.int .i64 c, .int .i64 (1 + st), .int .i64 1, .int .i64 (1 + l), .string n]) (by simp [results, Tryd.results65, go_sem, d0, d1, d2, d3, d4]) rfl ⟨_, _, _, _, _, rfl, req_ok HC.out HT.out (HL.out l hl) HO.out, SF.out, GF.out⟩
    · clear hq
      go_wp2_with fail
      refine (next_any 30 p B (K + 4) xs _ S5.out hB (by omega) hx (by decide) (by decide)).mono ?_
      rintro e w6 ⟨l, rfl, hl, s6, g6⟩
      have a6 := blk_kept A5.out g6 (by omega)
      have b6 := blk_kept B5.out g6 (by omega)
      obtain ⟨z3, t3⟩ := blk_cell b6 3 (x := .int .i64 0) rfl
      have AZ : Hid ((w6.setCell ⟨x, 3, none⟩ (.int .i64 (1 + l))).heap[w.heap.size]? = some (.cells zreq 71 (0, 0))) := (blk_far (by omega) 3 _).trans a6
      have BZ : Hid ((w6.setCell ⟨x, 3, none⟩ (.int .i64 (1 + l))).heap[x]? = some (.cells #[.int .i64 c, .int .i64 (1 + st), .int .i64 3, .int .i64 (1 + l), .string n] 71 (0, 0))) := blk_set b6 3 _
      have SZ : Hid (Src B (w6.setCell ⟨x, 3, none⟩ (.int .i64 (1 + l))) p xs (K + 5)) := Src.set s6 (by omega) (by omega) 3 _
      have GZ : Hid (w.grownBy (w6.setCell ⟨x, 3, none⟩ (.int .i64 (1 + l))) (some p)) := grown_new (grown_trans G5.out g6) (by omega) 3 _
      clear a6 b6 s6 g6 A5 B5 S5 G5 x2 x3 y3
      go_upto_region 4 with fail
      generalize w6.setCell ⟨x, 3, none⟩ (.int .i64 (1 + l)) = wz at AZ BZ SZ GZ ⊢
      clear z3 t3
      obtain ⟨ca0, fa0⟩ := blk_cell AZ.out 0 (x := .int .i64 0) rfl
      have cb0 := (blk_cell BZ.out 0 (x := .int .i64 c) rfl).1
      obtain ⟨ca1, fa1⟩ := blk_cell AZ.out 1 (x := .int .i64 0) rfl
      have cb1 := (blk_cell BZ.out 1 (x := .int .i64 (1 + st)) rfl).1
      obtain ⟨ca2, fa2⟩ := blk_cell AZ.out 2 (x := .int .i64 0) rfl
      have cb2 := (blk_cell BZ.out 2 (x := .int .i64 3) rfl).1
      obtain ⟨ca3, fa3⟩ := blk_cell AZ.out 3 (x := .int .i64 0) rfl
      have cb3 := (blk_cell BZ.out 3 (x := .int .i64 (1 + l)) rfl).1
      obtain ⟨ca4, fa4⟩ := blk_cell AZ.out 4 (x := .string ⟨#[]⟩) rfl
      have cb4 := (blk_cell BZ.out 4 (x := .string n) rfl).1
      have AF : ((((((wz.setCell ⟨w.heap.size, 0, none⟩ (.int .i64 c)).setCell ⟨w.heap.size, 1, none⟩ (.int .i64 (1 + st))).setCell ⟨w.heap.size, 2, none⟩ (.int .i64 3)).setCell ⟨w.heap.size, 3, none⟩ (.int .i64 (1 + l))).setCell ⟨w.heap.size, 4, none⟩ (.string n))).heap[w.heap.size]? = some (.cells #[.int .i64 c, .int .i64 (1 + st), .int .i64 3, .int .i64 (1 + l), .string n] 71 (0, 0)) := (blk_set (blk_set (blk_set (blk_set (blk_set AZ.out 0 (.int .i64 c)) 1 (.int .i64 (1 + st))) 2 (.int .i64 3)) 3 (.int .i64 (1 + l))) 4 (.string n))
      have GF : Hid (w.grownBy (((((wz.setCell ⟨w.heap.size, 0, none⟩ (.int .i64 c)).setCell ⟨w.heap.size, 1, none⟩ (.int .i64 (1 + st))).setCell ⟨w.heap.size, 2, none⟩ (.int .i64 3)).setCell ⟨w.heap.size, 3, none⟩ (.int .i64 (1 + l))).setCell ⟨w.heap.size, 4, none⟩ (.string n)) (some p)) := (grown_new (grown_new (grown_new (grown_new (grown_new GZ.out (Nat.le_refl _) 0 (.int .i64 c)) (Nat.le_refl _) 1 (.int .i64 (1 + st))) (Nat.le_refl _) 2 (.int .i64 3)) (Nat.le_refl _) 3 (.int .i64 (1 + l))) (Nat.le_refl _) 4 (.string n))
      have SF : Hid (Src B (((((wz.setCell ⟨w.heap.size, 0, none⟩ (.int .i64 c)).setCell ⟨w.heap.size, 1, none⟩ (.int .i64 (1 + st))).setCell ⟨w.heap.size, 2, none⟩ (.int .i64 3)).setCell ⟨w.heap.size, 3, none⟩ (.int .i64 (1 + l))).setCell ⟨w.heap.size, 4, none⟩ (.string n)) p xs (K + 5)) := (Src.set (Src.set (Src.set (Src.set (Src.set SZ.out (by omega) (by omega) 0 (.int .i64 c)) (by omega) (by omega) 1 (.int .i64 (1 + st))) (by omega) (by omega) 2 (.int .i64 3)) (by omega) (by omega) 3 (.int .i64 (1 + l))) (by omega) (by omega) 4 (.string n))
      go_wp2_with fail
      generalize (((((wz.setCell ⟨w.heap.size, 0, none⟩ (.int .i64 c)).setCell ⟨w.heap.size, 1, none⟩ (.int .i64 (1 + st))).setCell ⟨w.heap.size, 2, none⟩ (.int .i64 3)).setCell ⟨w.heap.size, 3, none⟩ (.int .i64 (1 + l))).setCell ⟨w.heap.size, 4, none⟩ (.string n)) = wf at AF GF SF ⊢
      have d0 := (blk_cell AF 0 (x := .int .i64 c) rfl).1
      have d1 := (blk_cell AF 1 (x := .int .i64 (1 + st)) rfl).1
      have d2 := (blk_cell AF 2 (x := .int .i64 3) rfl).1
      have d3 := (blk_cell AF 3 (x := .int .i64 (1 + l)) rfl).1
      have d4 := (blk_cell AF 4 (x := .string n) rfl).1
      exact bodyPost_ret (v := .agg #[.int .i64 c, .int .i64 (1 + st), .int .i64 3, .int .i64 (1 + l), .string n]) (by simp [results, Tryd.results65, go_sem, d0, d1, d2, d3, d4]) rfl ⟨_, _, _, _, _, rfl, req_ok HC.out HT.out (HL.out l hl) HO.out, SF.out, GF.out⟩
  · have HL : Hid (leB kd 0 = true) := decide_eq_true (.inr ⟨by omega, rfl⟩)
    have q1 : (kd == 1) = false := by simp; omega
    have q3 : (kd == 3) = false := by simp; omega
    have SZ : Hid (Src B w5 p xs (K + 5)) := S5.out.le (by omega)
    clear hle S5
    go_upto_region 4 with fail
    obtain ⟨ca0, fa0⟩ := blk_cell A5.out 0 (x := .int .i64 0) rfl
    have cb0 := (blk_cell B5.out 0 (x := .int .i64 c) rfl).1
    obtain ⟨ca1, fa1⟩ := blk_cell A5.out 1 (x := .int .i64 0) rfl
    have cb1 := (blk_cell B5.out 1 (x := .int .i64 (1 + st)) rfl).1
    obtain ⟨ca2, fa2⟩ := blk_cell A5.out 2 (x := .int .i64 0) rfl
    have cb2 := (blk_cell B5.out 2 (x := .int .i64 kd) rfl).1
    obtain ⟨ca3, fa3⟩ := blk_cell A5.out 3 (x := .int .i64 0) rfl
    have cb3 := (blk_cell B5.out 3 (x := .int .i64 0) rfl).1
    obtain ⟨ca4, fa4⟩ := blk_cell A5.out 4 (x := .string ⟨#[]⟩) rfl
    have cb4 := (blk_cell B5.out 4 (x := .string n) rfl).1
    have AF : ((((((w5.setCell ⟨w.heap.size, 0, none⟩ (.int .i64 c)).setCell ⟨w.heap.size, 1, none⟩ (.int .i64 (1 + st))).setCell ⟨w.heap.size, 2, none⟩ (.int .i64 kd)).setCell ⟨w.heap.size, 3, none⟩ (.int .i64 0)).setCell ⟨w.heap.size, 4, none⟩ (.string n))).heap[w.heap.size]? = some (.cells #[.int .i64 c, .int .i64 (1 + st), .int .i64 kd, .int .i64 0, .string n] 71 (0, 0)) := (blk_set (blk_set (blk_set (blk_set (blk_set A5.out 0 (.int .i64 c)) 1 (.int .i64 (1 + st))) 2 (.int .i64 kd)) 3 (.int .i64 0)) 4 (.string n))
    have GF : Hid (w.grownBy (((((w5.setCell ⟨w.heap.size, 0, none⟩ (.int .i64 c)).setCell ⟨w.heap.size, 1, none⟩ (.int .i64 (1 + st))).setCell ⟨w.heap.size, 2, none⟩ (.int .i64 kd)).setCell ⟨w.heap.size, 3, none⟩ (.int .i64 0)).setCell ⟨w.heap.size, 4, none⟩ (.string n)) (some p)) := (grown_new (grown_new (grown_new (grown_new (grown_new G5.out (Nat.le_refl _) 0 (.int .i64 c)) (Nat.le_refl _) 1 (.int .i64 (1 + st))) (Nat.le_refl _) 2 (.int .i64 kd)) (Nat.le_refl _) 3 (.int .i64 0)) (Nat.le_refl _) 4 (.string n))
    have SF : Hid (Src B (((((w5.setCell ⟨w.heap.size, 0, none⟩ (.int .i64 c)).setCell ⟨w.heap.size, 1, none⟩ (.int .i64 (1 + st))).setCell ⟨w.heap.size, 2, none⟩ (.int .i64 kd)).setCell ⟨w.heap.size, 3, none⟩ (.int .i64 0)).setCell ⟨w.heap.size, 4, none⟩ (.string n)) p xs (K + 5)) := (Src.set (Src.set (Src.set (Src.set (Src.set SZ.out (by omega) (by omega) 0 (.int .i64 c)) (by omega) (by omega) 1 (.int .i64 (1 + st))) (by omega) (by omega) 2 (.int .i64 kd)) (by omega) (by omega) 3 (.int .i64 0)) (by omega) (by omega) 4 (.string n))
    go_wp2_with fail
    generalize (((((w5.setCell ⟨w.heap.size, 0, none⟩ (.int .i64 c)).setCell ⟨w.heap.size, 1, none⟩ (.int .i64 (1 + st))).setCell ⟨w.heap.size, 2, none⟩ (.int .i64 kd)).setCell ⟨w.heap.size, 3, none⟩ (.int .i64 0)).setCell ⟨w.heap.size, 4, none⟩ (.string n)) = wf at AF GF SF ⊢
    have d0 := (blk_cell AF 0 (x := .int .i64 c) rfl).1
    have d1 := (blk_cell AF 1 (x := .int .i64 (1 + st)) rfl).1
    have d2 := (blk_cell AF 2 (x := .int .i64 kd) rfl).1
    have d3 := (blk_cell AF 3 (x := .int .i64 0) rfl).1
    have d4 := (blk_cell AF 4 (x := .string n) rfl).1
    exact bodyPost_ret (v := .agg #[.int .i64 c, .int .i64 (1 + st), .int .i64 kd, .int .i64 0, .string n]) (by simp [results, Tryd.results65, go_sem, d0, d1, d2, d3, d4]) rfl ⟨_, _, _, _, _, rfl, req_ok HC.out HT.out HL.out HO.out, SF.out, GF.out⟩
end Go.Proofs.YtdeologdmdimoaaDoor.Gn
