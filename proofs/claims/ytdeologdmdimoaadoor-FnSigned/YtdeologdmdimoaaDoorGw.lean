/- Messages that the source draws. -/
import Derived.Test.YtdeologdmdimoaaDoorGb
import Derived.Test.YtdeologdmdimoaaDoorBs
import Derived.Test.YtdeologdmdimoaaDoorLb2
import Derived.Test.YtdeologdmdimoaaDoorMsgPut
namespace Go.Proofs.YtdeologdmdimoaaDoor.Gn
open Go.RowKit Go.Proofs.YtdeologdmdimoaaDoor.Sl Go.Proofs.YtdeologdmdimoaaDoor.By Go.Proofs.YtdeologdmdimoaaDoor.Ap Go.Proofs.YtdeologdmdimoaaDoor.Rq Go.Proofs.YtdeologdmdimoaaDoor.Rr Go.Proofs.YtdeologdmdimoaaDoor.Ty Go.Proofs.YtdeologdmdimoaaDoor.Gr Go.Proofs.YtdeologdmdimoaaDoor.Bo Go.Proofs.YtdeologdmdimoaaDoor.Tkb Go.Proofs.YtdeologdmdimoaaDoor.Bt Go.Proofs.YtdeologdmdimoaaDoor.Lb Go.Proofs.YtdeologdmdimoaaDoor.Ms Go.Proofs.YtdeologdmdimoaaDoor.Pu Go.Proofs.YtdeologdmdimoaaDoor.Rp
open Go.Proofs.YtdeologdmdimoaaDoor.Rg (RowG RowG.slice RowG.at lt_at mem_at bel_new)

theorem Src.below {B p K : Nat} {w w' : World} {xs : List Int} (h : Src B w p xs K) (hB : B ≤ p) (hb : Below w.heap.size w w') : Src B w' p xs K :=
  h.kept (hb.block p h.lt) (fun k hk => hb.block k (by have := h.lt; omega))
theorem grown_below {w w1 w2 : World} {r : Option Nat} (h : w.grownBy w1 r) (hb : Below w1.heap.size w1 w2) : w.grownBy w2 r :=
  grown_trans h ⟨hb.os, hb.tape, hb.output, hb.size, fun k hk _ => hb.block k hk⟩
def l12 : List ByteArray := [⟨#[111, 110, 101]⟩, ⟨#[116, 119, 111]⟩]
theorem l12_len : ∀ k, k ≤ l12.length → lenTo l12 k ≤ 65536 := by
  intro k hk
  match k, hk with
  | 0, _ => decide
  | 1, _ => decide
  | 2, _ => decide
theorem l12_size : (strOfNums (listTo l12 l12.length)).size ≤ 20000 := by
  rw [strOfNums_size, listTo_length]; decide
theorem bat_size {nl : Bool} {c st k l : Int} {n : ByteArray} {rs : List Rd} (h : bOK nl c st k l n rs = true) : 0 < (strOfNums (batBs nl c st k l n rs)).size ∧ (strOfNums (batBs nl c st k l n rs)).size ≤ 20000 := by
  rw [strOfNums_size]
  cases nl with
  | true => exact ⟨(by show 0 < 1; decide), (by show 1 ≤ 20000; decide)⟩
  | false =>
    obtain ⟨h12, h7, h8, _, _⟩ := bOK_parts h
    have e : (batBs false c st k l n rs).length = 1 + 13 * rs.length + (7 + n.size) := by
      show (nums ((rs.length : Int) + 1) 1 1 ++ rsBs rs ++ reqBs c st k l n).length = _
      rw [List.length_append, List.length_append, nums_length, rsBs_len rs h8, reqBs_length]
    rw [e]
    omega
theorem bat_use {nl : Bool} {c st k l : Int} {n : ByteArray} {rs : List Rd} (h : bOK nl c st k l n rs = true) (hz : nl = true → c = 0 ∧ st = 0 ∧ k = 0 ∧ l = 0 ∧ n = ⟨#[]⟩ ∧ rs = []) : rs.length ≤ 7 ∧ (∀ x ∈ rs, x.m.size = 8) ∧ n.size ≤ 12 := by
  cases nl with
  | true => obtain ⟨_, _, _, _, rfl, rfl⟩ := hz rfl; exact ⟨by decide, (fun x hx => by cases hx), by decide⟩
  | false => obtain ⟨h12, h7, h8, _, _⟩ := bOK_parts h; exact ⟨h7, h8, h12⟩
theorem not_empty {s : ByteArray} (h : 0 < s.size) : (!s.toList.isEmpty) = true := by rw [Mp.empty_size, decide_eq_false (by omega)]; rfl
theorem msg_ok {kd vw sq fr : Int} {dg bd mc : ByteArray} (h1 : 0 ≤ vw ∧ vw ≤ 20) (h2 : 0 ≤ fr ∧ fr ≤ 6) (h3 : mc.size = 8) (h4 : bd.size ≤ 20000) (h5 : kindB kd sq dg bd = true) : msgB kd vw sq fr dg bd mc = true := by
  have e1 : inB vw 0 20 = true := decide_eq_true h1
  have e2 : inB fr 0 6 = true := decide_eq_true h2
  have e4 : decide ((bd.size : Int) ≤ 20000) = true := decide_eq_true (by omega)
  unfold msgB
  rw [e1, e2, h3, e4, h5]
  rfl
theorem place_ok {sq : Nat} {dg : ByteArray} (h1 : sq < 4) (h2 : dg.size = 32) : placeB (1 + (sq : Int)) dg = true := by
  have e1 : inB (1 + (sq : Int)) 1 8 = true := decide_eq_true ⟨by omega, by omega⟩
  unfold placeB
  rw [e1, h2]
  rfl
set_option maxRecDepth 100000 in
set_option maxHeartbeats 3200000 in
theorem message_any (p B K : Nat) (xs : List Int) (w : World) (h : Src B w p xs K) (hB : B ≤ p) (hK : K ≤ 50000) (hx : xs.length ≤ 1048576) :
    Calls Tryd.prog 21 #[.pointer (some ⟨p, 0, none⟩)] w fun e w' => ∃ (kd vw sq fr : Int) (dg bd mc : ByteArray), e = .returned (.agg #[.int .i64 kd, .int .i64 vw, .int .i64 sq, .int .i64 fr, .string dg, .string bd, .string mc]) ∧ msgB kd vw sq fr dg bd mc = true ∧ Src B w' p xs (K + 20) ∧ w.grownBy w' (some p) := by
  have hp := h.lt
  have S0 : Hid (Src B (w.alloc (.cells zmsg 24)) p xs K) := h.alloc hB _
  have G0 : Hid (w.grownBy (w.alloc (.cells zmsg 24)) (some p)) := grown_alloc (grown_refl _ _) _
  have A0 : Hid ((w.alloc (.cells zmsg 24)).heap[w.heap.size]? = some (.cells zmsg 24 (0, 0))) := blk_new _ _ _
  clear h
  go_enter Tryd.func21, Tryd.ntmps21
  go_wp2_with fail
  refine (next_any 5 p B (K) xs _ S0.out hB (by omega) hx (by decide) (by decide)).mono ?_
  rintro e w1 ⟨k, rfl, hk, s1, g1⟩
  have S1 : Hid (Src B w1 p xs (K + 1)) := s1
  have G1 : Hid (w.grownBy w1 (some p)) := grown_trans G0.out g1
  have A1 : Hid (w1.heap[w.heap.size]? = some (.cells zmsg 24 (0, 0))) := blk_kept A0.out g1 (by omega)
  clear s1 g1 S0 G0 A0
  go_wp2_with fail
  refine (next_any 4 p B (K + 1) xs _ S1.out hB (by omega) hx (by decide) (by decide)).mono ?_
  rintro e w2 ⟨vw, rfl, hvw, s2, g2⟩
  have S2 : Hid (Src B w2 p xs (K + 2)) := s2
  have G2 : Hid (w.grownBy w2 (some p)) := grown_trans G1.out g2
  have A2 : Hid (w2.heap[w.heap.size]? = some (.cells zmsg 24 (0, 0))) := blk_kept A1.out g2 (by omega)
  clear s2 g2 S1 G1 A1
  go_wp2_with fail
  refine (next_any 4 p B (K + 2) xs _ S2.out hB (by omega) hx (by decide) (by decide)).mono ?_
  rintro e w3 ⟨fr, rfl, hfr, s3, g3⟩
  have S3 : Hid (Src B w3 p xs (K + 3)) := s3
  have G3 : Hid (w.grownBy w3 (some p)) := grown_trans G2.out g3
  have A3 : Hid (w3.heap[w.heap.size]? = some (.cells zmsg 24 (0, 0))) := blk_kept A2.out g3 (by omega)
  clear s3 g3 S2 G2 A2
  go_wp2_with fail
  refine (next_any 9 p B (K + 3) xs _ S3.out hB (by omega) hx (by decide) (by decide)).mono ?_
  rintro e w4 ⟨mi, rfl, hmi, s4, g4⟩
  have l4 : w.heap.size < w4.heap.size := (Array.getElem?_eq_some_iff.1 (blk_kept A3.out g4 (by omega))).1
  have S4 : Hid (Src B (w4.alloc (.cells #[.int .u8 (mi : Int)] 5)) p xs (K + 4)) := s4.alloc hB _
  have G4 : Hid (w.grownBy (w4.alloc (.cells #[.int .u8 (mi : Int)] 5)) (some p)) := grown_alloc (grown_trans G3.out g4) _
  have A4 : Hid ((w4.alloc (.cells #[.int .u8 (mi : Int)] 5)).heap[w.heap.size]? = some (.cells zmsg 24 (0, 0))) := (Below.heap_alloc _ _ _ l4).trans (blk_kept A3.out g4 (by omega))
  have hw8 : IntKind.u8.wrap (mi : Int) = (mi : Int) := by rw [IntKind.wrap_u8]; omega
  have HH : Hid (Calls Tryd.prog 43 #[.slice (some ⟨w4.heap.size, 0, none⟩) 1 1] (w4.alloc (.cells #[.int .u8 (mi : Int)] 5)) fun e w' => ∃ s : ByteArray, e = .returned (.string s) ∧ s.size = 32 ∧ Below (w4.alloc (.cells #[.int .u8 (mi : Int)] 5)).heap.size (w4.alloc (.cells #[.int .u8 (mi : Int)] 5)) w') := hash1_any (mi : Int) _ ⟨by omega, by omega⟩ w4.heap.size (blk_new _ _ _)
  clear s4 g4 S3 G3 A3
  go_wp2_with fail
  refine HH.out.mono ?_
  rintro e w5 ⟨ms, rfl, hz5, b5⟩
  have la5 := (Array.getElem?_eq_some_iff.1 A4.out).1
  have S5 : Hid (Src B w5 p xs (K + 4)) := S4.out.below hB b5
  have G5 : Hid (w.grownBy w5 (some p)) := grown_below G4.out b5
  have A5 : Hid (w5.heap[w.heap.size]? = some (.cells zmsg 24 (0, 0))) := (b5.block _ la5).trans A4.out
  clear b5 S4 G4 A4 HH hw8
  have l5 : w.heap.size < w5.heap.size := (Array.getElem?_eq_some_iff.1 A5.out).1
  have hp5 := S5.out.lt
  have HM8 : Hid ((ms.extract 0 8).size = 8) := by show _ = _; rw [ByteArray.size_extract, hz5]; rfl
  have S6 : Hid (Src B (w5.alloc (.cells #[.int .i64 (1 + k), .int .i64 vw, .int .i64 0, .int .i64 fr, .string ⟨#[]⟩, .string ⟨#[]⟩, .string (ms.extract 0 8)] 24)) p xs (K + 4)) := S5.out.alloc hB _
  have G6 : Hid (w.grownBy (w5.alloc (.cells #[.int .i64 (1 + k), .int .i64 vw, .int .i64 0, .int .i64 fr, .string ⟨#[]⟩, .string ⟨#[]⟩, .string (ms.extract 0 8)] 24)) (some p)) := grown_alloc G5.out _
  have A6 : Hid ((w5.alloc (.cells #[.int .i64 (1 + k), .int .i64 vw, .int .i64 0, .int .i64 fr, .string ⟨#[]⟩, .string ⟨#[]⟩, .string (ms.extract 0 8)] 24)).heap[w.heap.size]? = some (.cells zmsg 24 (0, 0))) := (Below.heap_alloc _ _ _ l5).trans A5.out
  have B6 : Hid ((w5.alloc (.cells #[.int .i64 (1 + k), .int .i64 vw, .int .i64 0, .int .i64 fr, .string ⟨#[]⟩, .string ⟨#[]⟩, .string (ms.extract 0 8)] 24)).heap[w5.heap.size]? = some (.cells #[.int .i64 (1 + k), .int .i64 vw, .int .i64 0, .int .i64 fr, .string ⟨#[]⟩, .string ⟨#[]⟩, .string (ms.extract 0 8)] 24 (0, 0))) := blk_new _ _ _
  clear S5 G5 A5
  go_upto_region 2 with fail
  generalize (w5.alloc (.cells #[.int .i64 (1 + k), .int .i64 vw, .int .i64 0, .int .i64 fr, .string ⟨#[]⟩, .string ⟨#[]⟩, .string (ms.extract 0 8)] 24)) = w6 at S6 G6 A6 B6 ⊢
  generalize ms.extract 0 8 = mc at HM8 B6 ⊢
  generalize w5.heap.size = x at l5 hp5 B6 ⊢
  clear hz5 l4
  obtain ⟨kd, hkd⟩ : ∃ kd : Int, (1 : Int) + (k : Int) = kd := ⟨_, rfl⟩
  rw [hkd] at B6 ⊢
  have hkr : 1 ≤ kd ∧ kd ≤ 5 := by omega
  clear hkd
  have HV : Hid ((0 ≤ (vw : Int) ∧ (vw : Int) ≤ 20) ∧ (0 ≤ (fr : Int) ∧ (fr : Int) ≤ 6)) := ⟨⟨by omega, by omega⟩, by omega, by omega⟩
  by_cases h3 : kd ≤ 3
  · have x0 := (blk_cell B6.out 0 (x := .int .i64 kd) rfl).1
    go_wp2_with fail
    clear x0
    refine (next_any 4 p B (K + 4) xs _ S6.out hB (by omega) hx (by decide) (by decide)).mono ?_
    rintro e w7 ⟨sq, rfl, hsq, s7, g7⟩
    have S7 : Hid (Src B w7 p xs (K + 5)) := s7
    have G7 : Hid (w.grownBy w7 (some p)) := grown_trans G6.out g7
    have A7 : Hid (w7.heap[w.heap.size]? = some (.cells zmsg 24 (0, 0))) := blk_kept A6.out g7 (by omega)
    have B7 : Hid (w7.heap[x]? = some (.cells #[.int .i64 kd, .int .i64 vw, .int .i64 0, .int .i64 fr, .string ⟨#[]⟩, .string ⟨#[]⟩, .string mc] 24 (0, 0))) := blk_kept B6.out g7 (by omega)
    clear s7 g7 S6 G6 A6 B6
    have S8 : Hid (Src B (w7.setCell ⟨x, 2, none⟩ (.int .i64 (1 + sq))) p xs (K + 5)) := Src.set S7.out (by omega) (by omega) 2 _
    have G8 : Hid (w.grownBy (w7.setCell ⟨x, 2, none⟩ (.int .i64 (1 + sq))) (some p)) := grown_new G7.out (by omega) 2 _
    have A8 : Hid ((w7.setCell ⟨x, 2, none⟩ (.int .i64 (1 + sq))).heap[w.heap.size]? = some (.cells zmsg 24 (0, 0))) := (blk_far (by omega) 2 _).trans A7.out
    have B8 : Hid ((w7.setCell ⟨x, 2, none⟩ (.int .i64 (1 + sq))).heap[x]? = some (.cells #[.int .i64 kd, .int .i64 vw, .int .i64 (1 + sq), .int .i64 fr, .string ⟨#[]⟩, .string ⟨#[]⟩, .string mc] 24 (0, 0))) := blk_set B7.out 2 _
    obtain ⟨yc, yf⟩ := blk_cell B7.out 2 (x := .int .i64 0) rfl
    clear S7 G7 A7 B7
    go_upto_region 4 with fail
    generalize (w7.setCell ⟨x, 2, none⟩ (.int .i64 (1 + sq))) = w8 at S8 G8 A8 B8 ⊢
    clear yc yf
    go_wp2_with fail
    refine (next_any 4 p B (K + 5) xs _ S8.out hB (by omega) hx (by decide) (by decide)).mono ?_
    rintro e w9 ⟨di, rfl, hdi, s9, g9⟩
    have l9 : w.heap.size < w9.heap.size := (Array.getElem?_eq_some_iff.1 (blk_kept A8.out g9 (by omega))).1
    have S9 : Hid (Src B (w9.alloc (.cells #[.int .u8 (di : Int)] 5)) p xs (K + 6)) := s9.alloc hB _
    have G9 : Hid (w.grownBy (w9.alloc (.cells #[.int .u8 (di : Int)] 5)) (some p)) := grown_alloc (grown_trans G8.out g9) _
    have A9 : Hid ((w9.alloc (.cells #[.int .u8 (di : Int)] 5)).heap[w.heap.size]? = some (.cells zmsg 24 (0, 0))) := (Below.heap_alloc _ _ _ l9).trans (blk_kept A8.out g9 (by omega))
    have lx9 : x < w9.heap.size := (Array.getElem?_eq_some_iff.1 (blk_kept B8.out g9 (by omega))).1
    have B9 : Hid ((w9.alloc (.cells #[.int .u8 (di : Int)] 5)).heap[x]? = some (.cells #[.int .i64 kd, .int .i64 vw, .int .i64 (1 + sq), .int .i64 fr, .string ⟨#[]⟩, .string ⟨#[]⟩, .string mc] 24 (0, 0))) := (Below.heap_alloc _ _ _ lx9).trans (blk_kept B8.out g9 (by omega))
    have hw8 : IntKind.u8.wrap (di : Int) = (di : Int) := by rw [IntKind.wrap_u8]; omega
    have HH : Hid (Calls Tryd.prog 43 #[.slice (some ⟨w9.heap.size, 0, none⟩) 1 1] (w9.alloc (.cells #[.int .u8 (di : Int)] 5)) fun e w' => ∃ s : ByteArray, e = .returned (.string s) ∧ s.size = 32 ∧ Below (w9.alloc (.cells #[.int .u8 (di : Int)] 5)).heap.size (w9.alloc (.cells #[.int .u8 (di : Int)] 5)) w') := hash1_any (di : Int) _ ⟨by omega, by omega⟩ w9.heap.size (blk_new _ _ _)
    clear s9 g9 S8 G8 A8 B8
    go_wp2_with fail
    refine HH.out.mono ?_
    rintro e w10 ⟨dg, rfl, hz10, b10⟩
    have la10 := (Array.getElem?_eq_some_iff.1 A9.out).1
    have S10 : Hid (Src B w10 p xs (K + 6)) := S9.out.below hB b10
    have G10 : Hid (w.grownBy w10 (some p)) := grown_below G9.out b10
    have A10 : Hid (w10.heap[w.heap.size]? = some (.cells zmsg 24 (0, 0))) := (b10.block _ la10).trans A9.out
    have B10 : Hid (w10.heap[x]? = some (.cells #[.int .i64 kd, .int .i64 vw, .int .i64 (1 + sq), .int .i64 fr, .string ⟨#[]⟩, .string ⟨#[]⟩, .string mc] 24 (0, 0))) := (b10.block _ (Array.getElem?_eq_some_iff.1 B9.out).1).trans B9.out
    clear b10 S9 G9 A9 HH hw8 B9
    have HP : Hid (placeB (1 + (sq : Int)) dg = true) := place_ok hsq hz10
    have S11 : Hid (Src B (w10.setCell ⟨x, 4, none⟩ (.string dg)) p xs (K + 6)) := Src.set S10.out (by omega) (by omega) 4 _
    have G11 : Hid (w.grownBy (w10.setCell ⟨x, 4, none⟩ (.string dg)) (some p)) := grown_new G10.out (by omega) 4 _
    have A11 : Hid ((w10.setCell ⟨x, 4, none⟩ (.string dg)).heap[w.heap.size]? = some (.cells zmsg 24 (0, 0))) := (blk_far (by omega) 4 _).trans A10.out
    have B11 : Hid ((w10.setCell ⟨x, 4, none⟩ (.string dg)).heap[x]? = some (.cells #[.int .i64 kd, .int .i64 vw, .int .i64 (1 + sq), .int .i64 fr, .string dg, .string ⟨#[]⟩, .string mc] 24 (0, 0))) := blk_set B10.out 4 _
    obtain ⟨yc, yf⟩ := blk_cell B10.out 4 (x := .string ⟨#[]⟩) rfl
    clear S10 G10 A10 B10
    go_upto_region 5 with fail
    generalize (w10.setCell ⟨x, 4, none⟩ (.string dg)) = w11 at S11 G11 A11 B11 ⊢
    clear yc yf
    have y0 := (blk_cell B11.out 0 (x := .int .i64 kd) rfl).1
    by_cases h1 : kd = 1
    · subst h1
      go_wp2_with fail
      clear y0
      refine (batch_any p B (K + 6) xs _ S11.out hB (by omega) hx).mono ?_
      rintro e w12 ⟨nl, bc, bst, bk, bl, bn, bv, rs, rfl, hbo, hbz, o12, s12, g12⟩
      have S12 : Hid (Src B w12 p xs (K + 20)) := s12
      have G12 : Hid (w.grownBy w12 (some p)) := grown_trans G11.out g12
      have A12 : Hid (w12.heap[w.heap.size]? = some (.cells zmsg 24 (0, 0))) := blk_kept A11.out g12 (by omega)
      have B12 : Hid (w12.heap[x]? = some (.cells #[.int .i64 1, .int .i64 vw, .int .i64 (1 + sq), .int .i64 fr, .string dg, .string ⟨#[]⟩, .string mc] 24 (0, 0))) := blk_kept B11.out g12 (by omega)
      obtain ⟨u1, u2, u3⟩ := bat_use hbo hbz
      have HB := l02Batch_any nl bc bst bk bl bn bv rs w12 (OwnR.row o12) u1 u2 u3
      have HZ : Hid (0 < (strOfNums (batBs nl bc bst bk bl bn rs)).size ∧ (strOfNums (batBs nl bc bst bk bl bn rs)).size ≤ 20000) := bat_size hbo
      have HBR : Hid (∀ z ∈ batBs nl bc bst bk bl bn rs, 0 ≤ z ∧ z ≤ 255) := batBs_range nl bc bst bk bl bn rs
      generalize batBs nl bc bst bk bl bn rs = bs at HB HZ HBR
      obtain ⟨q1, q2, rfl⟩ := RowG.slice (OwnR.row o12)
      unfold batV at HB
      unfold batV
      clear o12 s12 g12 hbo hbz u1 u2 u3 S11 G11 A11 B11
      go_wp2_with fail
      refine HB.mono ?_
      rintro e w13 ⟨v13, rfl, o13, b13⟩
      have la := (Array.getElem?_eq_some_iff.1 A12.out).1
      have lb := (Array.getElem?_eq_some_iff.1 B12.out).1
      have S13 : Hid (Src B w13 p xs (K + 20)) := S12.out.below hB b13
      have G13 : Hid (w.grownBy w13 (some p)) := grown_below G12.out b13
      have A13 : Hid (w13.heap[w.heap.size]? = some (.cells zmsg 24 (0, 0))) := (b13.block _ la).trans A12.out
      have B13 : Hid (w13.heap[x]? = some (.cells #[.int .i64 1, .int .i64 vw, .int .i64 (1 + sq), .int .i64 fr, .string dg, .string ⟨#[]⟩, .string mc] 24 (0, 0))) := (b13.block _ lb).trans B12.out
      have hc := run_convert_row (P := Tryd.prog) w13 w13.heap.size 22 5 9 Tryd.underlying22 Tryd.underlying5 Tryd.underlying9 v13 bs (RowU.of (own_rowB o13 HBR.out))
      generalize strOfNums bs = bd at hc HZ
      clear o13 b13 S12 G12 A12 B12 HB la lb
      have S14 : Hid (Src B (w13.setCell ⟨x, 5, none⟩ (.string bd)) p xs (K + 20)) := Src.set S13.out (by omega) (by omega) 5 _
      have G14 : Hid (w.grownBy (w13.setCell ⟨x, 5, none⟩ (.string bd)) (some p)) := grown_new G13.out (by omega) 5 _
      have A14 : Hid ((w13.setCell ⟨x, 5, none⟩ (.string bd)).heap[w.heap.size]? = some (.cells zmsg 24 (0, 0))) := (blk_far (by omega) 5 _).trans A13.out
      have B14 : Hid ((w13.setCell ⟨x, 5, none⟩ (.string bd)).heap[x]? = some (.cells #[.int .i64 1, .int .i64 vw, .int .i64 (1 + sq), .int .i64 fr, .string dg, .string bd, .string mc] 24 (0, 0))) := blk_set B13.out 5 _
      obtain ⟨yc, yf⟩ := blk_cell B13.out 5 (x := .string ⟨#[]⟩) rfl
      clear S13 G13 A13 B13
      go_upto_region 7 with fail
      generalize (w13.setCell ⟨x, 5, none⟩ (.string bd)) = w14 at S14 G14 A14 B14 ⊢
      clear yc yf
      have HOK : Hid (msgB 1 vw (1 + (sq : Int)) fr dg bd mc = true) := msg_ok HV.out.1 HV.out.2 HM8.out HZ.out.2 (by rw [kind1, HP.out, not_empty HZ.out.1]; rfl)
      have y7 := (blk_cell B14.out 0 (x := .int .i64 1) rfl).1
      clear hc
      go_upto_region 9 with fail
      obtain ⟨ca0, fa0⟩ := blk_cell A14.out 0 (x := .int .i64 0) rfl
      have cb0 := (blk_cell B14.out 0 (x := .int .i64 1) rfl).1
      obtain ⟨ca1, fa1⟩ := blk_cell A14.out 1 (x := .int .i64 0) rfl
      have cb1 := (blk_cell B14.out 1 (x := .int .i64 vw) rfl).1
      obtain ⟨ca2, fa2⟩ := blk_cell A14.out 2 (x := .int .i64 0) rfl
      have cb2 := (blk_cell B14.out 2 (x := .int .i64 (1 + sq)) rfl).1
      obtain ⟨ca3, fa3⟩ := blk_cell A14.out 3 (x := .int .i64 0) rfl
      have cb3 := (blk_cell B14.out 3 (x := .int .i64 fr) rfl).1
      obtain ⟨ca4, fa4⟩ := blk_cell A14.out 4 (x := .string ⟨#[]⟩) rfl
      have cb4 := (blk_cell B14.out 4 (x := .string dg) rfl).1
      obtain ⟨ca5, fa5⟩ := blk_cell A14.out 5 (x := .string ⟨#[]⟩) rfl
      have cb5 := (blk_cell B14.out 5 (x := .string bd) rfl).1
      obtain ⟨ca6, fa6⟩ := blk_cell A14.out 6 (x := .string ⟨#[]⟩) rfl
      have cb6 := (blk_cell B14.out 6 (x := .string mc) rfl).1
      have AF : ((((((((w14.setCell ⟨w.heap.size, 0, none⟩ (.int .i64 1)).setCell ⟨w.heap.size, 1, none⟩ (.int .i64 vw)).setCell ⟨w.heap.size, 2, none⟩ (.int .i64 (1 + sq))).setCell ⟨w.heap.size, 3, none⟩ (.int .i64 fr)).setCell ⟨w.heap.size, 4, none⟩ (.string dg)).setCell ⟨w.heap.size, 5, none⟩ (.string bd)).setCell ⟨w.heap.size, 6, none⟩ (.string mc))).heap[w.heap.size]? = some (.cells #[.int .i64 1, .int .i64 vw, .int .i64 (1 + sq), .int .i64 fr, .string dg, .string bd, .string mc] 24 (0, 0)) := (blk_set (blk_set (blk_set (blk_set (blk_set (blk_set (blk_set A14.out 0 (.int .i64 1)) 1 (.int .i64 vw)) 2 (.int .i64 (1 + sq))) 3 (.int .i64 fr)) 4 (.string dg)) 5 (.string bd)) 6 (.string mc))
      have GF : Hid (w.grownBy (((((((w14.setCell ⟨w.heap.size, 0, none⟩ (.int .i64 1)).setCell ⟨w.heap.size, 1, none⟩ (.int .i64 vw)).setCell ⟨w.heap.size, 2, none⟩ (.int .i64 (1 + sq))).setCell ⟨w.heap.size, 3, none⟩ (.int .i64 fr)).setCell ⟨w.heap.size, 4, none⟩ (.string dg)).setCell ⟨w.heap.size, 5, none⟩ (.string bd)).setCell ⟨w.heap.size, 6, none⟩ (.string mc)) (some p)) := (grown_new (grown_new (grown_new (grown_new (grown_new (grown_new (grown_new G14.out (Nat.le_refl _) 0 (.int .i64 1)) (Nat.le_refl _) 1 (.int .i64 vw)) (Nat.le_refl _) 2 (.int .i64 (1 + sq))) (Nat.le_refl _) 3 (.int .i64 fr)) (Nat.le_refl _) 4 (.string dg)) (Nat.le_refl _) 5 (.string bd)) (Nat.le_refl _) 6 (.string mc))
      have SF : Hid (Src B (((((((w14.setCell ⟨w.heap.size, 0, none⟩ (.int .i64 1)).setCell ⟨w.heap.size, 1, none⟩ (.int .i64 vw)).setCell ⟨w.heap.size, 2, none⟩ (.int .i64 (1 + sq))).setCell ⟨w.heap.size, 3, none⟩ (.int .i64 fr)).setCell ⟨w.heap.size, 4, none⟩ (.string dg)).setCell ⟨w.heap.size, 5, none⟩ (.string bd)).setCell ⟨w.heap.size, 6, none⟩ (.string mc)) p xs (K + 20)) := (Src.set (Src.set (Src.set (Src.set (Src.set (Src.set (Src.set S14.out (by omega) (by omega) 0 (.int .i64 1)) (by omega) (by omega) 1 (.int .i64 vw)) (by omega) (by omega) 2 (.int .i64 (1 + sq))) (by omega) (by omega) 3 (.int .i64 fr)) (by omega) (by omega) 4 (.string dg)) (by omega) (by omega) 5 (.string bd)) (by omega) (by omega) 6 (.string mc))
      go_wp2_with fail
      generalize (((((((w14.setCell ⟨w.heap.size, 0, none⟩ (.int .i64 1)).setCell ⟨w.heap.size, 1, none⟩ (.int .i64 vw)).setCell ⟨w.heap.size, 2, none⟩ (.int .i64 (1 + sq))).setCell ⟨w.heap.size, 3, none⟩ (.int .i64 fr)).setCell ⟨w.heap.size, 4, none⟩ (.string dg)).setCell ⟨w.heap.size, 5, none⟩ (.string bd)).setCell ⟨w.heap.size, 6, none⟩ (.string mc)) = wf at AF GF SF ⊢
      have d0 := (blk_cell AF 0 (x := .int .i64 1) rfl).1
      have d1 := (blk_cell AF 1 (x := .int .i64 vw) rfl).1
      have d2 := (blk_cell AF 2 (x := .int .i64 (1 + sq)) rfl).1
      have d3 := (blk_cell AF 3 (x := .int .i64 fr) rfl).1
      have d4 := (blk_cell AF 4 (x := .string dg) rfl).1
      have d5 := (blk_cell AF 5 (x := .string bd) rfl).1
      have d6 := (blk_cell AF 6 (x := .string mc) rfl).1
      exact bodyPost_ret (v := .agg #[.int .i64 1, .int .i64 vw, .int .i64 (1 + sq), .int .i64 fr, .string dg, .string bd, .string mc]) (by simp [results, Tryd.results21, go_sem, d0, d1, d2, d3, d4, d5, d6]) rfl ⟨_, _, _, _, _, _, _, rfl, HOK.out, SF.out, GF.out⟩
    · have q1 : (kd == 1) = false := by simp; omega
      have q4 : ¬ 4 ≤ kd := by omega
      have HOK : Hid (msgB kd vw (1 + (sq : Int)) fr dg ⟨#[]⟩ mc = true) := by
        refine msg_ok HV.out.1 HV.out.2 HM8.out (by decide) ?_
        rcases (by omega : kd = 2 ∨ kd = 3) with rfl | rfl
        · rw [kind2, HP.out, Mp.empty_size]; rfl
        · rw [kind3, HP.out, Mp.empty_size]; rfl
      have SZ : Hid (Src B w11 p xs (K + 20)) := S11.out.le (by omega)
      clear S11
      go_upto_region 9 with fail
      obtain ⟨ca0, fa0⟩ := blk_cell A11.out 0 (x := .int .i64 0) rfl
      have cb0 := (blk_cell B11.out 0 (x := .int .i64 kd) rfl).1
      obtain ⟨ca1, fa1⟩ := blk_cell A11.out 1 (x := .int .i64 0) rfl
      have cb1 := (blk_cell B11.out 1 (x := .int .i64 vw) rfl).1
      obtain ⟨ca2, fa2⟩ := blk_cell A11.out 2 (x := .int .i64 0) rfl
      have cb2 := (blk_cell B11.out 2 (x := .int .i64 (1 + sq)) rfl).1
      obtain ⟨ca3, fa3⟩ := blk_cell A11.out 3 (x := .int .i64 0) rfl
      have cb3 := (blk_cell B11.out 3 (x := .int .i64 fr) rfl).1
      obtain ⟨ca4, fa4⟩ := blk_cell A11.out 4 (x := .string ⟨#[]⟩) rfl
      have cb4 := (blk_cell B11.out 4 (x := .string dg) rfl).1
      obtain ⟨ca5, fa5⟩ := blk_cell A11.out 5 (x := .string ⟨#[]⟩) rfl
      have cb5 := (blk_cell B11.out 5 (x := .string ⟨#[]⟩) rfl).1
      obtain ⟨ca6, fa6⟩ := blk_cell A11.out 6 (x := .string ⟨#[]⟩) rfl
      have cb6 := (blk_cell B11.out 6 (x := .string mc) rfl).1
      have AF : ((((((((w11.setCell ⟨w.heap.size, 0, none⟩ (.int .i64 kd)).setCell ⟨w.heap.size, 1, none⟩ (.int .i64 vw)).setCell ⟨w.heap.size, 2, none⟩ (.int .i64 (1 + sq))).setCell ⟨w.heap.size, 3, none⟩ (.int .i64 fr)).setCell ⟨w.heap.size, 4, none⟩ (.string dg)).setCell ⟨w.heap.size, 5, none⟩ (.string ⟨#[]⟩)).setCell ⟨w.heap.size, 6, none⟩ (.string mc))).heap[w.heap.size]? = some (.cells #[.int .i64 kd, .int .i64 vw, .int .i64 (1 + sq), .int .i64 fr, .string dg, .string ⟨#[]⟩, .string mc] 24 (0, 0)) := (blk_set (blk_set (blk_set (blk_set (blk_set (blk_set (blk_set A11.out 0 (.int .i64 kd)) 1 (.int .i64 vw)) 2 (.int .i64 (1 + sq))) 3 (.int .i64 fr)) 4 (.string dg)) 5 (.string ⟨#[]⟩)) 6 (.string mc))
      have GF : Hid (w.grownBy (((((((w11.setCell ⟨w.heap.size, 0, none⟩ (.int .i64 kd)).setCell ⟨w.heap.size, 1, none⟩ (.int .i64 vw)).setCell ⟨w.heap.size, 2, none⟩ (.int .i64 (1 + sq))).setCell ⟨w.heap.size, 3, none⟩ (.int .i64 fr)).setCell ⟨w.heap.size, 4, none⟩ (.string dg)).setCell ⟨w.heap.size, 5, none⟩ (.string ⟨#[]⟩)).setCell ⟨w.heap.size, 6, none⟩ (.string mc)) (some p)) := (grown_new (grown_new (grown_new (grown_new (grown_new (grown_new (grown_new G11.out (Nat.le_refl _) 0 (.int .i64 kd)) (Nat.le_refl _) 1 (.int .i64 vw)) (Nat.le_refl _) 2 (.int .i64 (1 + sq))) (Nat.le_refl _) 3 (.int .i64 fr)) (Nat.le_refl _) 4 (.string dg)) (Nat.le_refl _) 5 (.string ⟨#[]⟩)) (Nat.le_refl _) 6 (.string mc))
      have SF : Hid (Src B (((((((w11.setCell ⟨w.heap.size, 0, none⟩ (.int .i64 kd)).setCell ⟨w.heap.size, 1, none⟩ (.int .i64 vw)).setCell ⟨w.heap.size, 2, none⟩ (.int .i64 (1 + sq))).setCell ⟨w.heap.size, 3, none⟩ (.int .i64 fr)).setCell ⟨w.heap.size, 4, none⟩ (.string dg)).setCell ⟨w.heap.size, 5, none⟩ (.string ⟨#[]⟩)).setCell ⟨w.heap.size, 6, none⟩ (.string mc)) p xs (K + 20)) := (Src.set (Src.set (Src.set (Src.set (Src.set (Src.set (Src.set SZ.out (by omega) (by omega) 0 (.int .i64 kd)) (by omega) (by omega) 1 (.int .i64 vw)) (by omega) (by omega) 2 (.int .i64 (1 + sq))) (by omega) (by omega) 3 (.int .i64 fr)) (by omega) (by omega) 4 (.string dg)) (by omega) (by omega) 5 (.string ⟨#[]⟩)) (by omega) (by omega) 6 (.string mc))
      go_wp2_with fail
      generalize (((((((w11.setCell ⟨w.heap.size, 0, none⟩ (.int .i64 kd)).setCell ⟨w.heap.size, 1, none⟩ (.int .i64 vw)).setCell ⟨w.heap.size, 2, none⟩ (.int .i64 (1 + sq))).setCell ⟨w.heap.size, 3, none⟩ (.int .i64 fr)).setCell ⟨w.heap.size, 4, none⟩ (.string dg)).setCell ⟨w.heap.size, 5, none⟩ (.string ⟨#[]⟩)).setCell ⟨w.heap.size, 6, none⟩ (.string mc)) = wf at AF GF SF ⊢
      have d0 := (blk_cell AF 0 (x := .int .i64 kd) rfl).1
      have d1 := (blk_cell AF 1 (x := .int .i64 vw) rfl).1
      have d2 := (blk_cell AF 2 (x := .int .i64 (1 + sq)) rfl).1
      have d3 := (blk_cell AF 3 (x := .int .i64 fr) rfl).1
      have d4 := (blk_cell AF 4 (x := .string dg) rfl).1
      have d5 := (blk_cell AF 5 (x := .string ⟨#[]⟩) rfl).1
      have d6 := (blk_cell AF 6 (x := .string mc) rfl).1
      exact bodyPost_ret (v := .agg #[.int .i64 kd, .int .i64 vw, .int .i64 (1 + sq), .int .i64 fr, .string dg, .string ⟨#[]⟩, .string mc]) (by simp [results, Tryd.results21, go_sem, d0, d1, d2, d3, d4, d5, d6]) rfl ⟨_, _, _, _, _, _, _, rfl, HOK.out, SF.out, GF.out⟩
  · have x0 := (blk_cell B6.out 0 (x := .int .i64 kd) rfl).1
    have q1 : (kd == 1) = false := by simp; omega
    have q4 : 4 ≤ kd := by omega
    have la := (Array.getElem?_eq_some_iff.1 A6.out).1
    have lb := (Array.getElem?_eq_some_iff.1 B6.out).1
    have S7 : Hid (Src B (w6.alloc (.cells #[.string ⟨#[111, 110, 101]⟩, .string ⟨#[116, 119, 111]⟩] 9)) p xs (K + 4)) := S6.out.alloc hB _
    have G7 : Hid (w.grownBy (w6.alloc (.cells #[.string ⟨#[111, 110, 101]⟩, .string ⟨#[116, 119, 111]⟩] 9)) (some p)) := grown_alloc G6.out _
    have A7 : Hid ((w6.alloc (.cells #[.string ⟨#[111, 110, 101]⟩, .string ⟨#[116, 119, 111]⟩] 9)).heap[w.heap.size]? = some (.cells zmsg 24 (0, 0))) := (Below.heap_alloc _ _ _ la).trans A6.out
    have B7 : Hid ((w6.alloc (.cells #[.string ⟨#[111, 110, 101]⟩, .string ⟨#[116, 119, 111]⟩] 9)).heap[x]? = some (.cells #[.int .i64 kd, .int .i64 vw, .int .i64 0, .int .i64 fr, .string ⟨#[]⟩, .string ⟨#[]⟩, .string mc] 24 (0, 0))) := (Below.heap_alloc _ _ _ lb).trans B6.out
    have R7 : RowT (w6.alloc (.cells #[.string ⟨#[111, 110, 101]⟩, .string ⟨#[116, 119, 111]⟩] 9)) (.slice (some ⟨w6.heap.size, 0, none⟩) 2 2) l12 := by
      refine ⟨some ⟨w6.heap.size, 0, none⟩, 2, rfl, .inr ⟨w6.heap.size, 0, rfl, by decide, by simp, ?_⟩⟩
      intro i hi
      have hb := blk_new w6 #[.string ⟨#[111, 110, 101]⟩, .string ⟨#[116, 119, 111]⟩] 9
      match i, hi with
      | 0, _ => exact (blk_cell hb 0 (x := .string ⟨#[111, 110, 101]⟩) rfl).1
      | 1, _ => exact (blk_cell hb 1 (x := .string ⟨#[116, 119, 111]⟩) rfl).1
    have HL := l02List_any _ l12 _ R7 (by decide) l12_len
    have HZ : Hid ((strOfNums (listTo l12 l12.length)).size ≤ 20000) := l12_size
    have HBR : Hid (∀ z ∈ listTo l12 l12.length, 0 ≤ z ∧ z ≤ 255) := listTo_range l12 _
    generalize listTo l12 l12.length = bs at HL HZ HBR
    clear S6 G6 A6 B6 R7
    go_wp2_with fail
    refine HL.mono ?_
    rintro e w8 ⟨v8, rfl, o8, b8⟩
    have S8 : Hid (Src B w8 p xs (K + 4)) := S7.out.below hB b8
    have G8 : Hid (w.grownBy w8 (some p)) := grown_below G7.out b8
    have A8 : Hid (w8.heap[w.heap.size]? = some (.cells zmsg 24 (0, 0))) := (b8.block _ (by rw [size_new]; omega)).trans A7.out
    have B8 : Hid (w8.heap[x]? = some (.cells #[.int .i64 kd, .int .i64 vw, .int .i64 0, .int .i64 fr, .string ⟨#[]⟩, .string ⟨#[]⟩, .string mc] 24 (0, 0))) := (b8.block _ (by rw [size_new]; omega)).trans B7.out
    have hc := run_convert_row (P := Tryd.prog) w8 w8.heap.size 22 5 9 Tryd.underlying22 Tryd.underlying5 Tryd.underlying9 v8 bs (RowU.of (own_rowB o8 HBR.out))
    generalize strOfNums bs = bd at hc HZ
    clear o8 b8 S7 G7 A7 B7 HL la lb x0
    have S9 : Hid (Src B (w8.setCell ⟨x, 5, none⟩ (.string bd)) p xs (K + 4)) := Src.set S8.out (by omega) (by omega) 5 _
    have G9 : Hid (w.grownBy (w8.setCell ⟨x, 5, none⟩ (.string bd)) (some p)) := grown_new G8.out (by omega) 5 _
    have A9 : Hid ((w8.setCell ⟨x, 5, none⟩ (.string bd)).heap[w.heap.size]? = some (.cells zmsg 24 (0, 0))) := (blk_far (by omega) 5 _).trans A8.out
    have B9 : Hid ((w8.setCell ⟨x, 5, none⟩ (.string bd)).heap[x]? = some (.cells #[.int .i64 kd, .int .i64 vw, .int .i64 0, .int .i64 fr, .string ⟨#[]⟩, .string bd, .string mc] 24 (0, 0))) := blk_set B8.out 5 _
    obtain ⟨yc, yf⟩ := blk_cell B8.out 5 (x := .string ⟨#[]⟩) rfl
    clear S8 G8 A8 B8
    go_upto_region 9 with fail
    generalize (w8.setCell ⟨x, 5, none⟩ (.string bd)) = w9 at S9 G9 A9 B9 ⊢
    clear yc yf
    have HOK : Hid (msgB kd vw 0 fr ⟨#[]⟩ bd mc = true) := by
      refine msg_ok HV.out.1 HV.out.2 HM8.out HZ.out ?_
      rcases (by omega : kd = 4 ∨ kd = 5) with rfl | rfl
      · rw [kind4, Mp.empty_size]; rfl
      · rw [kind5, Mp.empty_size]; rfl
    have SZ : Hid (Src B w9 p xs (K + 20)) := S9.out.le (by omega)
    clear S9 hc
    obtain ⟨ca0, fa0⟩ := blk_cell A9.out 0 (x := .int .i64 0) rfl
    have cb0 := (blk_cell B9.out 0 (x := .int .i64 kd) rfl).1
    obtain ⟨ca1, fa1⟩ := blk_cell A9.out 1 (x := .int .i64 0) rfl
    have cb1 := (blk_cell B9.out 1 (x := .int .i64 vw) rfl).1
    obtain ⟨ca2, fa2⟩ := blk_cell A9.out 2 (x := .int .i64 0) rfl
    have cb2 := (blk_cell B9.out 2 (x := .int .i64 0) rfl).1
    obtain ⟨ca3, fa3⟩ := blk_cell A9.out 3 (x := .int .i64 0) rfl
    have cb3 := (blk_cell B9.out 3 (x := .int .i64 fr) rfl).1
    obtain ⟨ca4, fa4⟩ := blk_cell A9.out 4 (x := .string ⟨#[]⟩) rfl
    have cb4 := (blk_cell B9.out 4 (x := .string ⟨#[]⟩) rfl).1
    obtain ⟨ca5, fa5⟩ := blk_cell A9.out 5 (x := .string ⟨#[]⟩) rfl
    have cb5 := (blk_cell B9.out 5 (x := .string bd) rfl).1
    obtain ⟨ca6, fa6⟩ := blk_cell A9.out 6 (x := .string ⟨#[]⟩) rfl
    have cb6 := (blk_cell B9.out 6 (x := .string mc) rfl).1
    have AF : ((((((((w9.setCell ⟨w.heap.size, 0, none⟩ (.int .i64 kd)).setCell ⟨w.heap.size, 1, none⟩ (.int .i64 vw)).setCell ⟨w.heap.size, 2, none⟩ (.int .i64 0)).setCell ⟨w.heap.size, 3, none⟩ (.int .i64 fr)).setCell ⟨w.heap.size, 4, none⟩ (.string ⟨#[]⟩)).setCell ⟨w.heap.size, 5, none⟩ (.string bd)).setCell ⟨w.heap.size, 6, none⟩ (.string mc))).heap[w.heap.size]? = some (.cells #[.int .i64 kd, .int .i64 vw, .int .i64 0, .int .i64 fr, .string ⟨#[]⟩, .string bd, .string mc] 24 (0, 0)) := (blk_set (blk_set (blk_set (blk_set (blk_set (blk_set (blk_set A9.out 0 (.int .i64 kd)) 1 (.int .i64 vw)) 2 (.int .i64 0)) 3 (.int .i64 fr)) 4 (.string ⟨#[]⟩)) 5 (.string bd)) 6 (.string mc))
    have GF : Hid (w.grownBy (((((((w9.setCell ⟨w.heap.size, 0, none⟩ (.int .i64 kd)).setCell ⟨w.heap.size, 1, none⟩ (.int .i64 vw)).setCell ⟨w.heap.size, 2, none⟩ (.int .i64 0)).setCell ⟨w.heap.size, 3, none⟩ (.int .i64 fr)).setCell ⟨w.heap.size, 4, none⟩ (.string ⟨#[]⟩)).setCell ⟨w.heap.size, 5, none⟩ (.string bd)).setCell ⟨w.heap.size, 6, none⟩ (.string mc)) (some p)) := (grown_new (grown_new (grown_new (grown_new (grown_new (grown_new (grown_new G9.out (Nat.le_refl _) 0 (.int .i64 kd)) (Nat.le_refl _) 1 (.int .i64 vw)) (Nat.le_refl _) 2 (.int .i64 0)) (Nat.le_refl _) 3 (.int .i64 fr)) (Nat.le_refl _) 4 (.string ⟨#[]⟩)) (Nat.le_refl _) 5 (.string bd)) (Nat.le_refl _) 6 (.string mc))
    have SF : Hid (Src B (((((((w9.setCell ⟨w.heap.size, 0, none⟩ (.int .i64 kd)).setCell ⟨w.heap.size, 1, none⟩ (.int .i64 vw)).setCell ⟨w.heap.size, 2, none⟩ (.int .i64 0)).setCell ⟨w.heap.size, 3, none⟩ (.int .i64 fr)).setCell ⟨w.heap.size, 4, none⟩ (.string ⟨#[]⟩)).setCell ⟨w.heap.size, 5, none⟩ (.string bd)).setCell ⟨w.heap.size, 6, none⟩ (.string mc)) p xs (K + 20)) := (Src.set (Src.set (Src.set (Src.set (Src.set (Src.set (Src.set SZ.out (by omega) (by omega) 0 (.int .i64 kd)) (by omega) (by omega) 1 (.int .i64 vw)) (by omega) (by omega) 2 (.int .i64 0)) (by omega) (by omega) 3 (.int .i64 fr)) (by omega) (by omega) 4 (.string ⟨#[]⟩)) (by omega) (by omega) 5 (.string bd)) (by omega) (by omega) 6 (.string mc))
    go_wp2_with fail
    generalize (((((((w9.setCell ⟨w.heap.size, 0, none⟩ (.int .i64 kd)).setCell ⟨w.heap.size, 1, none⟩ (.int .i64 vw)).setCell ⟨w.heap.size, 2, none⟩ (.int .i64 0)).setCell ⟨w.heap.size, 3, none⟩ (.int .i64 fr)).setCell ⟨w.heap.size, 4, none⟩ (.string ⟨#[]⟩)).setCell ⟨w.heap.size, 5, none⟩ (.string bd)).setCell ⟨w.heap.size, 6, none⟩ (.string mc)) = wf at AF GF SF ⊢
    have d0 := (blk_cell AF 0 (x := .int .i64 kd) rfl).1
    have d1 := (blk_cell AF 1 (x := .int .i64 vw) rfl).1
    have d2 := (blk_cell AF 2 (x := .int .i64 0) rfl).1
    have d3 := (blk_cell AF 3 (x := .int .i64 fr) rfl).1
    have d4 := (blk_cell AF 4 (x := .string ⟨#[]⟩) rfl).1
    have d5 := (blk_cell AF 5 (x := .string bd) rfl).1
    have d6 := (blk_cell AF 6 (x := .string mc) rfl).1
    exact bodyPost_ret (v := .agg #[.int .i64 kd, .int .i64 vw, .int .i64 0, .int .i64 fr, .string ⟨#[]⟩, .string bd, .string mc]) (by simp [results, Tryd.results21, go_sem, d0, d1, d2, d3, d4, d5, d6]) rfl ⟨_, _, _, _, _, _, _, rfl, HOK.out, SF.out, GF.out⟩
set_option maxHeartbeats 400000 in
theorem MessageOf_any (v : Value) (xs : List Int) (w : World) (h : RowB w v xs) (hx : xs.length ≤ 1048576) :
    Calls Tryd.prog 5 #[v] w fun e w' => ∃ (kd vw sq fr : Int) (dg bd mc : ByteArray), e = .returned (.agg #[.int .i64 kd, .int .i64 vw, .int .i64 sq, .int .i64 fr, .string dg, .string bd, .string mc]) ∧ msgB kd vw sq fr dg bd mc = true ∧ Below w.heap.size w w' := by
  have B0 : Below w.heap.size w (w.alloc (.cells #[.int .i64 0, .int .i64 0, .int .i64 0, .int .i64 0, .string ⟨#[]⟩, .string ⟨#[]⟩, .string ⟨#[]⟩] 24)) := bel_new _ _
  have R0 : Hid (RowB (w.alloc (.cells #[.int .i64 0, .int .i64 0, .int .i64 0, .int .i64 0, .string ⟨#[]⟩, .string ⟨#[]⟩, .string ⟨#[]⟩] 24)) v xs) := h.below B0
  have A0 : Hid ((w.alloc (.cells #[.int .i64 0, .int .i64 0, .int .i64 0, .int .i64 0, .string ⟨#[]⟩, .string ⟨#[]⟩, .string ⟨#[]⟩] 24)).heap[w.heap.size]? = some (.cells #[.int .i64 0, .int .i64 0, .int .i64 0, .int .i64 0, .string ⟨#[]⟩, .string ⟨#[]⟩, .string ⟨#[]⟩] 24 (0, 0))) := blk_new _ _ _
  have hsz0 : (w.alloc (.cells #[.int .i64 0, .int .i64 0, .int .i64 0, .int .i64 0, .string ⟨#[]⟩, .string ⟨#[]⟩, .string ⟨#[]⟩] 24)).heap.size = w.heap.size + 1 := size_new _ _
  clear h
  go_enter Tryd.func5, Tryd.ntmps5
  go_wp2_with fail
  refine (source_any _ xs _ R0.out hx).mono ?_
  rw [hsz0]
  rintro e w1 ⟨rfl, s1, b1⟩
  have l1 := s1.lt
  have A1 : Hid (w1.heap[w.heap.size]? = some (.cells #[.int .i64 0, .int .i64 0, .int .i64 0, .int .i64 0, .string ⟨#[]⟩, .string ⟨#[]⟩, .string ⟨#[]⟩] 24 (0, 0))) := (b1.block _ (by omega)).trans A0.out
  have S1 : Hid (Src (w.heap.size + 1) w1 (w.heap.size + 1) xs 0) := s1
  have B1 : Hid (Below w.heap.size w w1) := B0.trans (b1.mono (by omega))
  clear s1 b1 B0 R0 A0 hsz0
  go_wp2_with fail
  refine (message_any (w.heap.size + 1) (w.heap.size + 1) 0 xs _ S1.out (Nat.le_refl _) (by decide) hx).mono ?_
  rintro e w2 ⟨kd, vw, sq, fr, dg, bd, mc, rfl, hq, s2, g2⟩
  have A2 : Hid (w2.heap[w.heap.size]? = some (.cells #[.int .i64 0, .int .i64 0, .int .i64 0, .int .i64 0, .string ⟨#[]⟩, .string ⟨#[]⟩, .string ⟨#[]⟩] 24 (0, 0))) := blk_kept A1.out g2 (by omega)
  have B2 : Hid (Below w.heap.size w w2) := ⟨g2.os.trans B1.out.os, g2.tape.trans B1.out.tape, g2.output.trans B1.out.output, Nat.le_trans B1.out.size g2.size, fun k hk => (g2.block k (Nat.lt_of_lt_of_le hk B1.out.size) (by simp; omega)).trans (B1.out.block k hk)⟩
  have HQ : Hid (msgB kd vw sq fr dg bd mc = true) := hq
  clear hq
  clear s2 g2 A1 S1 B1
  obtain ⟨ca0, fa0⟩ := blk_cell A2.out 0 (x := .int .i64 0) rfl
  obtain ⟨ca1, fa1⟩ := blk_cell A2.out 1 (x := .int .i64 0) rfl
  obtain ⟨ca2, fa2⟩ := blk_cell A2.out 2 (x := .int .i64 0) rfl
  obtain ⟨ca3, fa3⟩ := blk_cell A2.out 3 (x := .int .i64 0) rfl
  obtain ⟨ca4, fa4⟩ := blk_cell A2.out 4 (x := .string ⟨#[]⟩) rfl
  obtain ⟨ca5, fa5⟩ := blk_cell A2.out 5 (x := .string ⟨#[]⟩) rfl
  obtain ⟨ca6, fa6⟩ := blk_cell A2.out 6 (x := .string ⟨#[]⟩) rfl
  have AF : ((((((((w2.setCell ⟨w.heap.size, 0, none⟩ (.int .i64 kd)).setCell ⟨w.heap.size, 1, none⟩ (.int .i64 vw)).setCell ⟨w.heap.size, 2, none⟩ (.int .i64 sq)).setCell ⟨w.heap.size, 3, none⟩ (.int .i64 fr)).setCell ⟨w.heap.size, 4, none⟩ (.string dg)).setCell ⟨w.heap.size, 5, none⟩ (.string bd)).setCell ⟨w.heap.size, 6, none⟩ (.string mc))).heap[w.heap.size]? = some (.cells #[.int .i64 kd, .int .i64 vw, .int .i64 sq, .int .i64 fr, .string dg, .string bd, .string mc] 24 (0, 0)) := (blk_set (blk_set (blk_set (blk_set (blk_set (blk_set (blk_set A2.out 0 (.int .i64 kd)) 1 (.int .i64 vw)) 2 (.int .i64 sq)) 3 (.int .i64 fr)) 4 (.string dg)) 5 (.string bd)) 6 (.string mc))
  have BF : Hid (Below w.heap.size w (((((((w2.setCell ⟨w.heap.size, 0, none⟩ (.int .i64 kd)).setCell ⟨w.heap.size, 1, none⟩ (.int .i64 vw)).setCell ⟨w.heap.size, 2, none⟩ (.int .i64 sq)).setCell ⟨w.heap.size, 3, none⟩ (.int .i64 fr)).setCell ⟨w.heap.size, 4, none⟩ (.string dg)).setCell ⟨w.heap.size, 5, none⟩ (.string bd)).setCell ⟨w.heap.size, 6, none⟩ (.string mc))) := (Below.setCell (Below.setCell (Below.setCell (Below.setCell (Below.setCell (Below.setCell (Below.setCell B2.out (p := ⟨w.heap.size, 0, none⟩) (Nat.le_refl _) (.int .i64 kd)) (p := ⟨w.heap.size, 1, none⟩) (Nat.le_refl _) (.int .i64 vw)) (p := ⟨w.heap.size, 2, none⟩) (Nat.le_refl _) (.int .i64 sq)) (p := ⟨w.heap.size, 3, none⟩) (Nat.le_refl _) (.int .i64 fr)) (p := ⟨w.heap.size, 4, none⟩) (Nat.le_refl _) (.string dg)) (p := ⟨w.heap.size, 5, none⟩) (Nat.le_refl _) (.string bd)) (p := ⟨w.heap.size, 6, none⟩) (Nat.le_refl _) (.string mc))
  go_wp2_with fail
  generalize (((((((w2.setCell ⟨w.heap.size, 0, none⟩ (.int .i64 kd)).setCell ⟨w.heap.size, 1, none⟩ (.int .i64 vw)).setCell ⟨w.heap.size, 2, none⟩ (.int .i64 sq)).setCell ⟨w.heap.size, 3, none⟩ (.int .i64 fr)).setCell ⟨w.heap.size, 4, none⟩ (.string dg)).setCell ⟨w.heap.size, 5, none⟩ (.string bd)).setCell ⟨w.heap.size, 6, none⟩ (.string mc)) = wf at AF BF ⊢
  have d0 := (blk_cell AF 0 (x := .int .i64 kd) rfl).1
  have d1 := (blk_cell AF 1 (x := .int .i64 vw) rfl).1
  have d2 := (blk_cell AF 2 (x := .int .i64 sq) rfl).1
  have d3 := (blk_cell AF 3 (x := .int .i64 fr) rfl).1
  have d4 := (blk_cell AF 4 (x := .string dg) rfl).1
  have d5 := (blk_cell AF 5 (x := .string bd) rfl).1
  have d6 := (blk_cell AF 6 (x := .string mc) rfl).1
  exact bodyPost_ret (v := .agg #[.int .i64 kd, .int .i64 vw, .int .i64 sq, .int .i64 fr, .string dg, .string bd, .string mc]) (by simp [results, Tryd.results5, go_sem, d0, d1, d2, d3, d4, d5, d6]) rfl ⟨_, _, _, _, _, _, _, rfl, HQ.out, BF.out⟩
end Go.Proofs.YtdeologdmdimoaaDoor.Gn
