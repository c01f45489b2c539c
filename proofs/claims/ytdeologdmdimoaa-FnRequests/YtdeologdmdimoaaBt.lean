/- Batches' bytes: the program. -/
import Derived.Test.YtdeologdmdimoaaBo3
import Derived.Test.YtdeologdmdimoaaReqPut
namespace Go.Proofs.Ytdeologdmdimoaa.Bt
open Go.RowKit Go.Proofs.Ytdeologdmdimoaa.Sl Go.Proofs.Ytdeologdmdimoaa.By Go.Proofs.Ytdeologdmdimoaa.Rg Go.Proofs.Ytdeologdmdimoaa.Gr Go.Proofs.Ytdeologdmdimoaa.Rq Go.Proofs.Ytdeologdmdimoaa.Ap Go.Proofs.Ytdeologdmdimoaa.Pu Go.Proofs.Ytdeologdmdimoaa.Rp Go.Proofs.Ytdeologdmdimoaa.Bo

/-- A reading's bytes, some readings', a batch's. -/
def rdBs (x : Rd) : List Int := nums x.f 1 1 ++ (nums x.x 4 4 ++ bys x.m)
def rsBs (rs : List Rd) : List Int := rs.flatMap rdBs
def batBs (nl : Bool) (c st k l : Int) (n : ByteArray) (rs : List Rd) : List Int := if nl then [0] else nums ((rs.length : Int) + 1) 1 1 ++ rsBs rs ++ reqBs c st k l n
def batOut (nl : Bool) (c st k l : Int) (n : ByteArray) (rs : List Rd) : List Int := if bOK nl c st k l n rs then batBs nl c st k l n rs else []
def batCode (nl : Bool) (c st k l : Int) (n : ByteArray) (rs : List Rd) : Int := if bOK nl c st k l n rs then 0 else 1
theorem rs_step {rs : List Rd} {k : Nat} {x : Rd} (h : rs[k]? = some x) : rsBs (rs.take (k + 1)) = rsBs (rs.take k) ++ rdBs x := by
  unfold rsBs
  rw [List.take_add_one, h, List.flatMap_append]
  simp
theorem rsBs_len : ∀ (rs : List Rd), (∀ x ∈ rs, x.m.size = 8) → (rsBs rs).length = 13 * rs.length
  | [], _ => by simp [rsBs]
  | x :: xs, h => by
    have ih := rsBs_len xs fun y hy => h y (List.mem_cons_of_mem _ hy)
    unfold rsBs at ih ⊢
    rw [List.flatMap_cons, List.length_append, ih]
    unfold rdBs
    simp only [List.length_append, nums_length, bys_length, h x List.mem_cons_self, List.length_cons]
    omega
theorem rsBs_range (rs : List Rd) : ∀ z ∈ rsBs rs, 0 ≤ z ∧ z ≤ 255 := by
  intro z hz
  unfold rsBs at hz
  obtain ⟨x, _, hz⟩ := List.mem_flatMap.1 hz
  unfold rdBs at hz
  simp only [List.mem_append] at hz
  rcases hz with h | h | h
  · exact nums_range _ _ _ z h
  · exact nums_range _ _ _ z h
  · exact bys_range _ z h
theorem batBs_range (nl : Bool) (c st k l : Int) (n : ByteArray) (rs : List Rd) : ∀ z ∈ batBs nl c st k l n rs, 0 ≤ z ∧ z ≤ 255 := by
  intro z hz
  unfold batBs at hz
  cases nl with
  | true => simp at hz; omega
  | false =>
    simp only [Bool.false_eq_true, if_false, List.mem_append] at hz
    rcases hz with (h | h) | h
    · exact nums_range _ _ _ z h
    · exact rsBs_range _ z h
    · exact reqBs_range _ _ _ _ _ z h
theorem bOK_parts {c st k l : Int} {n : ByteArray} {rs : List Rd} (h : bOK false c st k l n rs = true) : n.size ≤ 12 ∧ rs.length ≤ 7 ∧ (∀ x ∈ rs, x.m.size = 8) ∧ reqB c st k l n = true ∧ rOK 0 rs = true := by
  have h' : (reqB c st k l n && rOK 0 rs) = true := h
  rw [Bool.and_eq_true] at h'
  exact ⟨req_small h'.1, rOK_seven h'.2, fun x hx => (rOK_small _ _ h'.2 x hx).1, h'.1, h'.2⟩
theorem box_kept {w w1 : World} {v v1 : Value} {cs : Array Value} {t : TypeId} (h : Kp (w.alloc (.cells cs t)) w1 v v1) (hn : some w.heap.size ≠ v.ownBlock) : w1.heap[w.heap.size]? = some (.cells cs t (0, 0)) :=
  (h.block _ (by simp) hn).trans (heap_alloc_new w _)
set_option maxRecDepth 100000 in
set_option maxHeartbeats 1600000 in
theorem implBatchBytes_any (nl : Bool) (c st k l : Int) (n : ByteArray) (vr : Value) (rs : List Rd) (w : World) (h : Row w vr rs) (hl : rs.length ≤ 1048576) (hn : n.size ≤ maxLen) :
    Calls Try.prog 23 #[batV nl c st k l n vr] w fun e w' => ∃ v, e = .returned (.tuple #[v, .int .i64 (batCode nl c st k l n rs)]) ∧ OwnB 5 w' w.heap.size v (batOut nl c st k l n rs) ∧ Below w.heap.size w w' := by
  obtain ⟨i0, hi, hz0, hz1, hz2⟩ := info_parts Sl.info5
  have HR : Hid (Row w vr rs) := h
  obtain ⟨a, cap, rfl⟩ := RowG.slice h
  clear h
  have C := batchOK_any nl c st k l n _ rs (w.alloc (.cells #[.bool nl, .int .i64 c, .int .i64 st, .int .i64 k, .int .i64 l, .string n, .slice a rs.length cap] 52)) (HR.out.below (bel_new _ _)) hl hn
  unfold batV at C ⊢
  have HC := C
  clear C
  go_enter Try.func23, Try.ntmps23
  go_wp2_with fail
  refine HC.mono ?_
  rintro e w1 ⟨rfl, b1⟩
  obtain ⟨q0, q1, q2, q3, q4, q5, q6, b0⟩ := bat_box b1
  have HB1 : Hid (Below w.heap.size w w1) := b0
  clear HC b1 b0
  cases hq : bOK nl c st k l n rs with
  | false =>
    have HE : Hid (1 = batCode nl c st k l n rs ∧ batOut nl c st k l n rs = []) := ⟨by unfold batCode; rw [hq]; rfl, by unfold batOut; rw [hq]; rfl⟩
    go_wp2_with fail
    go_ret2
    exact ⟨_, ret_tup HE.out.1, by rw [HE.out.2]; exact own_nil _ _ _, HB1.out⟩
  | true =>
    have HE : Hid (0 = batCode nl c st k l n rs ∧ batOut nl c st k l n rs = batBs nl c st k l n rs) := ⟨by unfold batCode; rw [hq]; rfl, by unfold batOut; rw [hq]; rfl⟩
    cases nl with
    | true =>
      have HO : Hid (batBs true c st k l n rs = [0]) := rfl
      go_wp2_with fail
      go_ret2
      refine ⟨_, ret_tup HE.out.1, ?_, HB1.out.alloc HB1.out.size _⟩
      rw [HE.out.2, HO.out]
      exact own_lit 5 w1 w.heap.size [0] 1 rfl HB1.out.size (by decide)
    | false =>
      have HO : Hid (batBs false c st k l n rs = nums ((rs.length : Int) + 1) 1 1 ++ rsBs rs ++ reqBs c st k l n) := rfl
      obtain ⟨hn12, hl7, hm8, _, _⟩ := bOK_parts hq
      have HM : Hid (∀ x ∈ rs, x.m.size = 8) := hm8
      have HX : Hid (∀ W, Below w1.heap.size w1 W → ((W.cell? ⟨w.heap.size, 1, none⟩ = some (.int .i64 c) ∧ W.cell? ⟨w.heap.size, 2, none⟩ = some (.int .i64 st) ∧ W.cell? ⟨w.heap.size, 3, none⟩ = some (.int .i64 k) ∧ W.cell? ⟨w.heap.size, 4, none⟩ = some (.int .i64 l) ∧ W.cell? ⟨w.heap.size, 5, none⟩ = some (.string n) ∧ W.cell? ⟨w.heap.size, 6, none⟩ = some (.slice a rs.length cap)) ∧ Row W (.slice a rs.length cap) rs ∧ Below w.heap.size w W)) := fun W hW => by
        have hlt : w.heap.size < w1.heap.size := World.block_lt_of_cell? _ _ q1
        have cl : ∀ (i : Nat) (x : Value), w1.cell? ⟨w.heap.size, i, none⟩ = some x → W.cell? ⟨w.heap.size, i, none⟩ = some x := fun i x hx => (hW.cell (p := ⟨w.heap.size, i, none⟩) hlt).trans hx
        exact ⟨⟨cl 1 _ q1, cl 2 _ q2, cl 3 _ q3, cl 4 _ q4, cl 5 _ q5, cl 6 _ q6⟩, (HR.out.below HB1.out).below hW, HB1.out.trans (hW.mono HB1.out.size)⟩
      clear q1 q2 q3 q4 q5 hm8 hq
      go_wp2_with fail
      refine (putNumber_any (.slice none 0 0) [] ((rs.length : Int) + 1) 1 w1.heap.size w1 (own_nil _ _ _) (Nat.le_refl _) (by decide) (by simp)).mono ?_
      rintro e w2 ⟨v2, rfl, o2, k2⟩
      rw [List.nil_append] at o2
      have O2 : Hid (OwnB 5 w2 w1.heap.size v2 (nums ((rs.length : Int) + 1) 1 1) ∧ Below w1.heap.size w1 w2) := ⟨o2, k2.nil⟩
      clear o2 k2 q0 q6
      have q6 := (HX.out w2 O2.out.2).1.2.2.2.2.2
      go_wp2_with fail
      clear q6
      go_loopw [4, 21] (fun b i wr => ∃ m : Nat, m ≤ rs.length ∧ i = .int .i64 m ∧ Hid (OwnB 5 wr w1.heap.size b (nums ((rs.length : Int) + 1) 1 1 ++ rsBs (rs.take m)) ∧ Below w1.heap.size w1 wr)) (fun _ i _ => rs.length - (intOf i).toNat)
      case atStart => exact ⟨0, by omega, rfl, ⟨by simpa [rsBs] using O2.out.1, O2.out.2⟩⟩
      case round =>
        clear O2
        obtain ⟨m, hm, rfl, HO2⟩ := hrel
        obtain ⟨v0, rfl⟩ : ∃ v0, v0 = u4 := ⟨_, rfl⟩
        obtain ⟨⟨q1, q2, q3, q4, q5, q6⟩, hrow, hbw⟩ := HX.out wr HO2.out.2
        have HLN : Hid ((nums ((rs.length : Int) + 1) 1 1 ++ rsBs (rs.take m)).length ≤ 1000) := by
          show _ ≤ _
          rw [List.length_append, nums_length, rsBs_len _ (fun x hx => HM.out x (List.mem_of_mem_take hx)), List.length_take]
          omega
        by_cases hlt : m < rs.length
        · obtain ⟨x, hx⟩ := Rg.get_at hlt
          obtain ⟨b, off, rfl, hbl, c0, c1, c2⟩ := RowG.at hrow rfl hx
          have HT : Hid (rsBs (rs.take (m + 1)) = rsBs (rs.take m) ++ rdBs x) := rs_step hx
          have HX8 : Hid (x.m.size = 8) := HM.out x (mem_at hx)
          obtain ⟨zs, HZS⟩ : ∃ zs, Hid (nums ((rs.length : Int) + 1) 1 1 ++ rsBs (rs.take m) = zs) := ⟨_, rfl⟩
          rw [HZS.out] at HO2 HLN
          have O0 : Hid (OwnB 5 (wr.alloc (.cells #[.int .i64 x.f, .int .i64 x.x, .string x.m] 88)) w1.heap.size v0 zs ∧ w1.heap.size ≤ (wr.alloc (.cells #[.int .i64 x.f, .int .i64 x.x, .string x.m] 88)).heap.size) := ⟨own_alloc HO2.out.1 _, Nat.le_trans HO2.out.2.size (by simp)⟩
          have HL : Hid (∀ W v', Kp (wr.alloc (.cells #[.int .i64 x.f, .int .i64 x.x, .string x.m] 88)) W v0 v' → (W.cell? ⟨wr.heap.size, 0, none⟩ = some (.int .i64 x.f) ∧ W.cell? ⟨wr.heap.size, 1, none⟩ = some (.int .i64 x.x) ∧ W.cell? ⟨wr.heap.size, 2, none⟩ = some (.string x.m)) ∧ Below w1.heap.size w1 W) := fun W v' h => by
            have h1 := box_kept h (own_away HO2.out.1)
            have h2 := h.below O0.out.1 O0.out.2
            exact ⟨⟨(blk_cell h1 0 rfl).1, (blk_cell h1 1 rfl).1, (blk_cell h1 2 rfl).1⟩, HO2.out.2.trans (((bel_new wr _).mono HO2.out.2.size).trans h2)⟩
          clear hx hrow hbw q1 q2 q3 q4 q5
          go_wp2_with fail
          clear c0 c1 c2
          refine (putNumber_any v0 zs x.f 1 w1.heap.size _ O0.out.1 O0.out.2 (by decide) (by have := HLN.out; omega)).mono ?_
          rintro e w3 ⟨v3, rfl, o3, k3⟩
          obtain ⟨⟨p0, p1, p2⟩, pb⟩ := HL.out _ _ k3
          have O3 : Hid (OwnB 5 w3 w1.heap.size v3 (zs ++ nums x.f 1 1) ∧ Kp (wr.alloc (.cells #[.int .i64 x.f, .int .i64 x.x, .string x.m] 88)) w3 v0 v3 ∧ Below w1.heap.size w1 w3) := ⟨o3, k3, pb⟩
          clear o3 k3 pb p0
          go_wp2_with fail
          refine (putNumber_any v3 _ x.x 4 w1.heap.size w3 O3.out.1 O3.out.2.2.size (by decide) (by rw [List.length_append, nums_length]; have := HLN.out; omega)).mono ?_
          rintro e w4 ⟨v4, rfl, o4, k4⟩
          clear p1 p2
          obtain ⟨⟨p0, p1, p2⟩, pb⟩ := HL.out _ _ (O3.out.2.1.trans k4)
          have O4 : Hid (OwnB 5 w4 w1.heap.size v4 (zs ++ nums x.f 1 1 ++ nums x.x 4 4) ∧ Kp (wr.alloc (.cells #[.int .i64 x.f, .int .i64 x.x, .string x.m] 88)) w4 v0 v4 ∧ Below w1.heap.size w1 w4) := ⟨o4, O3.out.2.1.trans k4, pb⟩
          clear o4 k4 pb p0 p1 O3
          have HLS : Hid ((zs ++ nums x.f 1 1 ++ nums x.x 4 4).length + x.m.size ≤ 140737488355328) := by show _ ≤ _; simp only [List.length_append, nums_length]; have := HLN.out; have := HX8.out; omega
          go_wp2_with (at_builtin; go_must (refine list_str (by rfl) _ _ 33 9 (by rfl) Try.underlying33 Try.underlying9 hi hz0 hz1 hz2 w1.heap.size _ _ x.m _ (by rfl) (by rfl) O4.out.1 O4.out.2.2.size HLS.out ?_; intro v5 w5 o5 k5))
          have O5 : Hid (OwnB 5 w5 w1.heap.size v5 (nums ((rs.length : Int) + 1) 1 1 ++ rsBs (rs.take (m + 1))) ∧ Below w1.heap.size w1 w5) := ⟨by rw [HT.out, ← List.append_assoc, HZS.out]; unfold rdBs; simpa [List.append_assoc] using o5, (HL.out _ _ (O4.out.2.1.trans k5)).2⟩
          exact ⟨⟨m + 1, by omega, by go_num, O5⟩, by simp [intOf]; omega⟩
        · obtain rfl : m = rs.length := by omega
          rw [List.take_length] at HO2 HLN
          clear hrow hbw q6
          go_wp2_with fail
          refine (putRequest_any v0 _ c st k l n w1.heap.size wr HO2.out.1 HO2.out.2.size (by have := HLN.out; omega) (by omega)).mono ?_
          rintro e w3 ⟨v3, rfl, o3, k3⟩
          have HF : Hid (OwnB 5 w3 w1.heap.size v3 (batBs false c st k l n rs) ∧ Below w1.heap.size w1 w3) := ⟨by rw [HO.out]; exact o3, HO2.out.2.trans (k3.below HO2.out.1 HO2.out.2.size)⟩
          clear o3 k3
          go_wp2_with fail
          go_ret2
          exact ⟨_, ret_tup HE.out.1, by rw [HE.out.2]; exact own_le HF.out.1 HB1.out.size, HB1.out.trans (HF.out.2.mono HB1.out.size)⟩
end Go.Proofs.Ytdeologdmdimoaa.Bt
