/- Texts put together: Rl, Of, SpReq, EqReq, Sp. -/
import Derived.Test.YtkfiahemgdppfaaGreatDoorM10
import Derived.Deep.CutRange
import Derived.Deep.DeepCutAuto
import Derived.Test.YtkfiahemgdppfaaGreatDoorM1
import Derived.Deep.RegionWith
import Derived.BigQuiet
/- A list is read: impl. -/
namespace Go.Proofs.YtkfiahemgdppfaaGreatDoor.Rl
open Go.RowKit Go.Proofs.YtkfiahemgdppfaaGreatDoor.Sl Go.Proofs.YtkfiahemgdppfaaGreatDoor.By Go.Proofs.YtkfiahemgdppfaaGreatDoor.Ap Go.Proofs.YtkfiahemgdppfaaGreatDoor.Rq Go.Proofs.YtkfiahemgdppfaaGreatDoor.Rr Go.Proofs.YtkfiahemgdppfaaGreatDoor.Ty Go.Proofs.YtkfiahemgdppfaaGreatDoor.Tl

/-- What a reader of lists answers. -/
def rlC (long ok : Bool) : Int := if long then 2 else if ok then 0 else 3
def rlO (long ok : Bool) (ts : List ByteArray) : List ByteArray := if rlC long ok = 0 then ts else []
theorem OwnS.below {w w' : World} {B : Nat} {v : Value} {ts : List ByteArray} (h : OwnS w B v ts) (hb : Below w.heap.size w w') : OwnS w' B v ts := by
  obtain ⟨hl, h⟩ := h
  refine ⟨hl, ?_⟩
  rcases h with h | ⟨g, cap, cur, hv, hB, hgb, h⟩
  · exact .inl h
  · exact .inr ⟨g, cap, cur, hv, hB, (hb.block g (Array.getElem?_eq_some_iff.1 hgb).1).trans hgb, h⟩
theorem OwnS.mono {w : World} {B B' : Nat} {v : Value} {ts : List ByteArray} (h : OwnS w B v ts) (hb : B' ≤ B) : OwnS w B' v ts := by
  obtain ⟨hl, h⟩ := h
  refine ⟨hl, ?_⟩
  rcases h with h | ⟨g, cap, cur, hv, hB, h⟩
  · exact .inl h
  · exact .inr ⟨g, cap, cur, hv, by omega, h⟩
theorem OwnS.nil (w : World) (B : Nat) : OwnS w B (.slice none 0 0) [] := World.ownsRow_nil _ _ _ _

set_option maxHeartbeats 800000 in
theorem readJustList_gen (v : Value) (xs : List Int) (w : World) (h : RowB w v xs) (hl : xs.length ≤ 1048576) (ts : List ByteArray) (rs : List Int) (sb : Bool) (hn : ts.length ≤ 1048576) (hs : ∀ i, i < ts.length → (tnth ts i).size ≤ 1048576)
    (htake : ∀ (W : World) (p B : Nat), Rdr B W p xs false → B ≤ p → xs.length ≤ 70000 → (∀ x ∈ xs, 0 ≤ x ∧ x ≤ 255) → Calls Tryz.prog 92 #[.pointer (some ⟨p, 0, none⟩)] W fun e w' => ∃ v', e = .returned v' ∧ OwnS w' W.heap.size v' ts ∧ Rdr B w' p rs sb ∧ W.grownBy w' (some p)) :
    Calls Tryz.prog 91 #[v, .func (Fn.func 92) #[] #[], .func (Fn.func 93) #[] #[]] w fun e w' => ∃ v', e = .returned (.tuple #[v', .int .i64 (rlC (decide (65536 < xs.length)) (!sb && (rs.isEmpty && okT ts)))]) ∧ OwnS w' w.heap.size v' (rlO (decide (65536 < xs.length)) (!sb && (rs.isEmpty && okT ts)) ts) ∧ Below w.heap.size w w' := by
  have HT : Hid (_) := htake
  clear htake
  have HU : Hid (RowU w.heap.size w v xs) := RowU.of h
  obtain ⟨a, cap, rfl, _, hr⟩ := h
  by_cases hb : 65536 < xs.length
  · have hb' : (65536 : Int) < (xs.length : Int) := by omega
    have HE : Hid (decide (65536 < xs.length) = true) := decide_eq_true hb
    go_enter Tryz.func91, Tryz.ntmps91
    go_wp2_with fail
    go_ret2
    rw [HE.out]
    exact ⟨_, rfl, OwnS.nil _ _, Below.refl _ _⟩
  have hb' : (xs.length : Int) ≤ 65536 := by omega
  have HE : Hid (decide (65536 < xs.length) = false) := decide_eq_false hb
  have HR : Hid (∀ x ∈ xs, 0 ≤ x ∧ x ≤ 255) := hr
  have HX : Hid (xs.length ≤ 65536) := by show _ ≤ _; omega
  have HNS : Hid (∀ _ : Unit, ts.length ≤ 1048576 ∧ ∀ i, i < ts.length → (tnth ts i).size ≤ 1048576) := fun _ => ⟨hn, hs⟩
  have H0 : Hid (Rdr w.heap.size (w.alloc (.cells #[.slice a xs.length cap, .bool false] 178)) w.heap.size xs false) := ⟨_, blk_new _ _ _, HU.out.kept (fun k hk => Below.heap_alloc _ _ _ hk)⟩
  have G0 : Hid (Below w.heap.size w (w.alloc (.cells #[.slice a xs.length cap, .bool false] 178))) := (Below.refl _ _).alloc (Nat.le_refl _) _
  clear hr hl hb HU hn hs
  go_enter Tryz.func91, Tryz.ntmps91
  go_wp2_with fail
  refine (HT.out _ w.heap.size w.heap.size H0.out (Nat.le_refl _) (by have := HX.out; omega) HR.out).mono ?_
  rintro e w4 ⟨v4, rfl, o4, r4, g4⟩
  have S0 : w.heap.size < (w.alloc (.cells #[.slice a xs.length cap, .bool false] 178)).heap.size := by rw [size_new]; omega
  have G4 : Below w.heap.size w w4 := ⟨g4.os.trans G0.out.os, g4.tape.trans G0.out.tape, g4.output.trans G0.out.output, Nat.le_trans G0.out.size g4.size, fun k hk => (below_kept g4 (by omega) S0 k hk).trans (G0.out.block k hk)⟩
  have O4 : Hid (OwnS w4 w.heap.size v4 ts) := OwnS.mono o4 (by rw [size_new]; omega)
  obtain ⟨u4, p4, a', cap', rfl, _, _, _⟩ := r4
  obtain ⟨p0, _⟩ := blk_cell p4 0 (x := .slice a' rs.length cap') rfl
  obtain ⟨p1, _⟩ := blk_cell p4 1 (x := .bool sb) rfl
  clear HT g4 H0 G0 S0 p4 o4
  rcases Bool.eq_false_or_eq_true sb with hsb | hsb
  case inl =>
    subst hsb
    go_wp2_with fail
    go_ret2
    rw [HE.out]
    exact ⟨_, rfl, OwnS.nil _ _, G4⟩
  case inr =>
  subst hsb
  rcases rs with _ | ⟨y, ys⟩
  rotate_left
  · have hlen : 0 < (y :: ys).length := Nat.succ_pos _
    have hdec : decide (0 < (y :: ys).length) = true := decide_eq_true hlen
    have HEm : Hid ((y :: ys).isEmpty = false) := rfl
    generalize (y :: ys).length = len at p0 hlen hdec
    go_wp2_with fail
    go_ret2
    rw [HE.out]
    exact ⟨_, rfl, OwnS.nil _ _, G4⟩
  have HEm : Hid (([] : List Int).isEmpty = true) := rfl
  go_wp2_with fail
  refine (listOK_any v4 ts _ O4.out.row (HNS.out ()).1 (HNS.out ()).2).mono ?_
  rintro e w6 ⟨rfl, hw⟩
  rw [hw]
  clear hw
  cases hq : okT ts
  case false =>
    go_wp2_with fail
    go_ret2
    rw [HE.out, hq]
    exact ⟨_, rfl, OwnS.nil _ _, G4⟩
  case true =>
    go_wp2_with fail
    go_ret2
    rw [HE.out, hq]
    exact ⟨_, rfl, O4.out, G4⟩
end Go.Proofs.YtkfiahemgdppfaaGreatDoor.Rl

/- The specification's numbers out of texts. -/
namespace Go.Proofs.YtkfiahemgdppfaaGreatDoor.Of
open Go.RowKit Go.Proofs.YtkfiahemgdppfaaGreatDoor.Sl Go.Proofs.YtkfiahemgdppfaaGreatDoor.By Go.Proofs.YtkfiahemgdppfaaGreatDoor.Ap Go.Proofs.YtkfiahemgdppfaaGreatDoor.Rq Go.Proofs.YtkfiahemgdppfaaGreatDoor.Rr

theorem bys_at (s : ByteArray) (i : Nat) (h : i < s.size) : nth (bys s) i = ((s[i]'h).toNat : Int) := by
  unfold nth bys
  have h' : i < s.data.toList.length := by simpa using h
  rw [List.getD_eq_getElem?_getD, List.getElem?_map, List.getElem?_eq_getElem h']
  rfl

set_option maxHeartbeats 400000 in
theorem l02Of_any (s : ByteArray) (w : World) (hs : s.size ≤ 4) :
    Calls Tryz.prog 97 #[.string s] w fun e w' => e = .returned (.int .i64 (beN (bys s))) ∧ w' = w := by
  have HS : Hid (s.size ≤ 4) := hs
  have hs4 : (s.size : Int) ≤ 4 := by omega
  clear hs
  go_enter Tryz.func97, Tryz.ntmps97
  go_wp2_with fail
  go_loop [3, 4] (fun n i => ∃ k : Nat, k ≤ s.size ∧ i = .int .i64 k ∧ n = .int .i64 (beN ((bys s).take k))) (fun _ i => s.size - (intOf i).toNat)
  case atStart => exact ⟨0, by omega, rfl, rfl⟩
  case round =>
    obtain ⟨k, hk, rfl, rfl⟩ := hrel
    by_cases hlt : k < s.size
    · have hb := (s[k]'hlt).toNat_lt
      have HM : Hid (beN ((bys s).take (k + 1)) = beN ((bys s).take k) * 256 + ((s[k]'hlt).toNat : Int)) := by show _ = _; rw [take_succ_nth (by rw [bys_length]; exact hlt), beN_snoc, bys_at s k hlt]
      have hbn := beN_range ((bys s).take k) (fun x hx => bys_range s x (List.mem_of_mem_take hx))
      have hb2 : beN ((bys s).take k) < 16777216 := by
        have : (256 : Int) ^ ((bys s).take k).length ≤ 256 ^ 3 := by
          have h3 : ((bys s).take k).length ≤ 3 := by rw [List.length_take, bys_length]; have := HS.out; omega
          generalize ((bys s).take k).length = q at h3
          match q, h3 with
          | 0, _ => decide
          | 1, _ => decide
          | 2, _ => decide
          | 3, _ => decide
        have e : (256 : Int) ^ 3 = 16777216 := rfl
        omega
      generalize beN ((bys s).take k) = m at hbn hb2 HM
      have hb0 := hbn.1
      clear hbn
      go_wp2
      go_round
      case rel => exact ⟨k + 1, by omega, by go_num, val_eq (by rw [HM.out])⟩
      case measure => simp [intOf]; omega
    · have HK : Hid (k = s.size) := by show _ = _; omega
      go_wp2
      go_ret
      refine ⟨?_, rfl⟩
      rw [HK.out, List.take_of_length_le (by rw [bys_length]; exact Nat.le_refl _)]
      rfl
end Go.Proofs.YtkfiahemgdppfaaGreatDoor.Of

/- The specification's ReadRequest. -/
namespace Go.Proofs.YtkfiahemgdppfaaGreatDoor.Of
open Go.RowKit Go.Proofs.YtkfiahemgdppfaaGreatDoor.Sl Go.Proofs.YtkfiahemgdppfaaGreatDoor.By Go.Proofs.YtkfiahemgdppfaaGreatDoor.Ap Go.Proofs.YtkfiahemgdppfaaGreatDoor.Rq Go.Proofs.YtkfiahemgdppfaaGreatDoor.Rr

theorem ext_size (s : ByteArray) (a b : Nat) : (s.extract a b).size = min b s.size - a := by simp [ByteArray.size_extract]
theorem ext_small (s : ByteArray) (a b : Nat) (h : b ≤ a + 4) : (s.extract a b).size ≤ 4 := by rw [ext_size]; omega

/-- The request that a text tells, as the specification reads it. -/
def sC (s : ByteArray) : Int := nth (bys s) 0
def sS (s : ByteArray) : Int := beN (bys (s.extract 1 3))
def sK (s : ByteArray) : Int := nth (bys s) 3
def sL (s : ByteArray) : Int := beN (bys (s.extract 4 6))
def sN (s : ByteArray) : ByteArray := s.extract 7 s.size
theorem wrap_small (n : Nat) (h : n < 2 ^ 8) : IntKind.i64.wrap (n : Int) = (n : Int) := by rw [IntKind.wrap_i64]; omega
theorem fin3 {w : World} {A B : Array Value} (h : A = B) : ((w.alloc (.cells zreq 118)).alloc (.cells A 118)).drew.heap[w.heap.size]? = some (.cells zreq 118 (0, 0)) ∧
    ((w.alloc (.cells zreq 118)).alloc (.cells A 118)).drew.heap[w.heap.size + 1]? = some (.cells B 118 (0, 0)) ∧ Below w.heap.size w ((w.alloc (.cells zreq 118)).alloc (.cells A 118)).drew := by
  subst h
  refine ⟨(Below.heap_alloc _ _ _ (by simp)).trans (blk_new _ _ _), ?_, (((Below.refl _ _).alloc (Nat.le_refl _) _).alloc (by simp) _).drew⟩
  have := blk_new (w.alloc (.cells zreq 118)) A 118
  rw [size_new] at this
  exact this
set_option maxRecDepth 100000 in
set_option maxHeartbeats 1600000 in
theorem l02ReadRequest_yes (s : ByteArray) (w : World) (hs : s.size ≤ 65536) (h7 : 6 < s.size) (hq : s.size = 7 + (s[6]'h7).toNat) :
    Calls Tryz.prog 98 #[.string s] w fun e w' => e = .returned (.tuple #[.agg #[.int .i64 (sC s), .int .i64 (sS s), .int .i64 (sK s), .int .i64 (sL s), .string (sN s)], .bool (reqB (sC s) (sS s) (sK s) (sL s) (sN s))]) ∧ Below w.heap.size w w' := by
  have h6 : (7 : Int) ≤ (s.size : Int) := by omega
  have j3 : (3 : Int) ≤ (s.size : Int) := by omega
  have k3 : (3 : Int) < (s.size : Int) := by omega
  have j6 : (6 : Int) ≤ (s.size : Int) := by omega
  have i0 : 0 < s.size := by omega
  have i3 : 3 < s.size := by omega
  have hb := (s[6]'h7).toNat_lt
  have hne : ((s.size : Int) != (7 : Int) + ((s[6]'h7).toNat : Int)) = false := by simp; omega
  have hs' : (s.size : Int) ≤ 65536 := by omega
  have e1 := ext_small s 1 3 (by decide)
  have e2 := ext_small s 4 6 (by decide)
  have E1 : Hid (∀ _ : Unit, (s.extract 1 3).size ≤ 4) := fun _ => e1
  have E2 : Hid (∀ _ : Unit, (s.extract 4 6).size ≤ 4) := fun _ => e2
  have E3 : Hid (∀ _ : Unit, (sN s).size ≤ maxLen) := fun _ => by unfold sN maxLen; rw [ext_size]; omega
  have HV : Hid ((#[.int .i64 (IntKind.i64.wrap ((s[0]'i0).toNat : Int)), .int .i64 (beN (bys (s.extract 1 3))), .int .i64 (IntKind.i64.wrap ((s[3]'i3).toNat : Int)), .int .i64 (beN (bys (s.extract 4 6))), .string (s.extract 7 s.size)] : Array Value) = #[.int .i64 (sC s), .int .i64 (sS s), .int .i64 (sK s), .int .i64 (sL s), .string (sN s)]) := by
    show _ = _
    have b0 := (s[0]'i0).toNat_lt
    have b3 := (s[3]'i3).toNat_lt
    rw [show sC s = _ from bys_at s 0 i0, show sK s = _ from bys_at s 3 i3, wrap_small _ b0, wrap_small _ b3]
    rfl
  clear hq e1 e2
  go_enter Tryz.func98, Tryz.ntmps98
  go_upto_region 3 with fail
  go_cut [4] (fun s4 wx => s4 = .pointer (some ⟨w.heap.size + 1, 0, none⟩) ∧ wx.heap[w.heap.size]? = some (.cells zreq 118 (0, 0)) ∧ wx.heap[w.heap.size + 1]? = some (.cells #[.int .i64 (sC s), .int .i64 (sS s), .int .i64 (sK s), .int .i64 (sL s), .string (sN s)] 118 (0, 0)) ∧ Below w.heap.size w wx)
  case first =>
    refine wp_region_any (by kernel_rfl) ?_
    change wpAny _ _ _ _ _ _ _ (World.drew _)
    refine wpAny_take (i := 0) (v := ?v1) rfl (by kernel_rfl) (by kernel_rfl) (by kernel_rfl) (fun _ _ _ h => h) (Or.inl ⟨by rfl, ?h1⟩) ?r1
    case h1 => intro wz; go_simp; try (with_reducible rfl)
    refine wpAny_take (i := 1) (v := ?v2) rfl (by kernel_rfl) (by kernel_rfl) (by kernel_rfl) (fun _ _ _ h => h) (Or.inl ⟨by rfl, ?h2⟩) ?r2
    case h2 => intro wz; go_simp; try (with_reducible rfl)
    refine wpAny_take (i := 2) (v := ?v3) rfl (by kernel_rfl) (by kernel_rfl) (by kernel_rfl) (fun _ _ _ h => h) (Or.inl ⟨by rfl, ?h3⟩) ?r3
    case h3 => intro wz; go_simp; try (with_reducible rfl)
    refine wpAny_take (i := 3) (v := ?v4) rfl (by kernel_rfl) (by kernel_rfl) (by kernel_rfl) (fun _ _ _ h => h) (Or.inl ⟨by rfl, ?h4⟩) ?r4
    case h4 => intro wz; go_simp; try (with_reducible rfl)
    refine wpAny_take (i := 4) (v := ?v5) rfl (by kernel_rfl) (by kernel_rfl) (by kernel_rfl) (fun _ _ _ h => h) (Or.inl ⟨by rfl, ?h5⟩) ?r5
    case h5 => intro wz; go_simp; try (with_reducible rfl)
    refine wpAny_take (i := 6) (v := ?v6) rfl (by kernel_rfl) (by kernel_rfl) (by kernel_rfl) (fun _ _ _ h => h) (Or.inl ⟨by rfl, ?h6⟩) ?r6
    case h6 => intro wz; go_simp; try (with_reducible rfl)
    refine wpAny_take (i := 7) (v := ?v7) rfl (by kernel_rfl) (by kernel_rfl) (by kernel_rfl) (fun _ _ _ h => h) (Or.inl ⟨by rfl, ?h7⟩) ?r7
    case h7 => intro wz; go_simp; try (with_reducible rfl)
    refine wpAny_take (i := 8) (v := ?v8) rfl (by kernel_rfl) (by kernel_rfl) (by kernel_rfl) (fun _ _ _ h => h) (Or.inl ⟨by rfl, ?h8⟩) ?r8
    case h8 => intro wz; go_simp; try (with_reducible rfl)
    refine wpAny_take (i := 9) (v := ?v9) rfl (by kernel_rfl) (by kernel_rfl) (by kernel_rfl) (fun _ _ _ h => h) (Or.inl ⟨by rfl, ?h9⟩) ?r9
    case h9 => intro wz; go_simp; try (with_reducible rfl)
    refine wpAny_take (i := 10) (v := ?v10) rfl (by kernel_rfl) (by kernel_rfl) (by kernel_rfl) (fun _ _ _ h => h) (Or.inl ⟨by rfl, ?h10⟩) ?r10
    case h10 => intro wz; go_simp; try (with_reducible rfl)
    refine wpAny_take (i := 12) (v := ?v11) rfl (by kernel_rfl) (by kernel_rfl) (by kernel_rfl) (fun _ _ _ h => h) (Or.inl ⟨by rfl, ?h11⟩) ?r11
    case h11 => intro wz; go_simp; try (with_reducible rfl)
    refine wpAny_take (i := 13) (v := ?v12) rfl (by kernel_rfl) (by kernel_rfl) (by kernel_rfl) (fun _ _ _ h => h) (Or.inl ⟨by rfl, ?h12⟩) ?r12
    case h12 => intro wz; go_simp; try (with_reducible rfl)
    refine wpAny_ready (rs := [5, 15]) (by kernel_rfl) (by simp) ?_
    refine AllReady.cons rfl (fun K hK => ?_) ?_
    · go_simp
      refine (l02Of_any (s.extract 1 3) _ (E1.out ())).mono ?_
      rintro e w' ⟨rfl, rfl⟩
      refine hK _ _ ?_
      clear hK K
      refine wpAny_ready (rs := [11, 15]) (by kernel_rfl) (by simp) ?_
      refine AllReady.cons rfl (fun K hK => ?_) ?_
      · go_simp
        refine (l02Of_any (s.extract 4 6) _ (E2.out ())).mono ?_
        rintro e w' ⟨rfl, rfl⟩
        refine hK _ _ ?_
        clear hK K
        refine wpAny_take (i := 14) (v := ?v13) rfl (by kernel_rfl) (by kernel_rfl) (by kernel_rfl) (fun _ _ _ h => h) (Or.inl ⟨by rfl, ?h13⟩) ?r13
        case h13 => intro wz; go_simp; try (with_reducible rfl)
        refine wpAny_ready (rs := [15]) (by kernel_rfl) (by simp) ?_
        refine AllReady.cons rfl (fun K hK => ?_) AllReady.nil
        go_simp
        refine hK _ _ ?_
        clear hK K
        refine wpAny_ready (rs := [16]) (by kernel_rfl) (by simp) ?_
        refine AllReady.cons rfl (fun K hK => ?_) AllReady.nil
        go_simp
        refine hK _ _ ?_
        clear hK K
        refine wpAny_done (by kernel_rfl) ?_ _
        go_wp2_with fail
        go_meet
        exact ⟨rfl, fin3 HV.out⟩
      refine AllReady.cons rfl (fun K hK => ?_) AllReady.nil
      go_simp
      refine hK _ _ ?_
      clear hK K
      refine wpAny_ready (rs := [11]) (by kernel_rfl) (by simp) ?_
      refine AllReady.cons rfl (fun K hK => ?_) AllReady.nil
      go_simp
      refine (l02Of_any (s.extract 4 6) _ (E2.out ())).mono ?_
      rintro e w' ⟨rfl, rfl⟩
      refine hK _ _ ?_
      clear hK K
      refine wpAny_take (i := 14) (v := ?v14) rfl (by kernel_rfl) (by kernel_rfl) (by kernel_rfl) (fun _ _ _ h => h) (Or.inl ⟨by rfl, ?h14⟩) ?r14
      case h14 => intro wz; go_simp; try (with_reducible rfl)
      refine wpAny_ready (rs := [16]) (by kernel_rfl) (by simp) ?_
      refine AllReady.cons rfl (fun K hK => ?_) AllReady.nil
      go_simp
      refine hK _ _ ?_
      clear hK K
      refine wpAny_done (by kernel_rfl) ?_ _
      go_wp2_with fail
      go_meet
      exact ⟨rfl, fin3 HV.out⟩
    refine AllReady.cons rfl (fun K hK => ?_) AllReady.nil
    go_simp
    refine hK _ _ ?_
    clear hK K
    refine wpAny_ready (rs := [5]) (by kernel_rfl) (by simp) ?_
    refine AllReady.cons rfl (fun K hK => ?_) AllReady.nil
    go_simp
    refine (l02Of_any (s.extract 1 3) _ (E1.out ())).mono ?_
    rintro e w' ⟨rfl, rfl⟩
    refine hK _ _ ?_
    clear hK K
    refine wpAny_ready (rs := [11]) (by kernel_rfl) (by simp) ?_
    refine AllReady.cons rfl (fun K hK => ?_) AllReady.nil
    go_simp
    refine (l02Of_any (s.extract 4 6) _ (E2.out ())).mono ?_
    rintro e w' ⟨rfl, rfl⟩
    refine hK _ _ ?_
    clear hK K
    refine wpAny_take (i := 14) (v := ?v15) rfl (by kernel_rfl) (by kernel_rfl) (by kernel_rfl) (fun _ _ _ h => h) (Or.inl ⟨by rfl, ?h15⟩) ?r15
    case h15 => intro wz; go_simp; try (with_reducible rfl)
    refine wpAny_ready (rs := [16]) (by kernel_rfl) (by simp) ?_
    refine AllReady.cons rfl (fun K hK => ?_) AllReady.nil
    go_simp
    refine hK _ _ ?_
    clear hK K
    refine wpAny_done (by kernel_rfl) ?_ _
    go_wp2_with fail
    go_meet
    exact ⟨rfl, fin3 HV.out⟩
  case rest =>
  obtain ⟨rfl, A1, X1, G1⟩ := hcut
  have xc0 := (blk_cell X1 0 (x := .int .i64 (sC s)) rfl).1; have xc1 := (blk_cell X1 1 (x := .int .i64 (sS s)) rfl).1; have xc2 := (blk_cell X1 2 (x := .int .i64 (sK s)) rfl).1; have xc3 := (blk_cell X1 3 (x := .int .i64 (sL s)) rfl).1; have xc4 := (blk_cell X1 4 (x := .string (sN s)) rfl).1
  clear j3 k3 j6 i0 i3 hb hne h6 hs' HV
  go_upto_region 4 with fail
  have A1d : wc.drew.heap[w.heap.size]? = some (.cells zreq 118 (0, 0)) := A1
  have X1d : wc.drew.heap[w.heap.size + 1]? = some (.cells #[.int .i64 (sC s), .int .i64 (sS s), .int .i64 (sK s), .int .i64 (sL s), .string (sN s)] 118 (0, 0)) := X1
  have hd1 : w.heap.size + 1 < wc.drew.heap.size := (Array.getElem?_eq_some_iff.1 X1d).1
  have G1d : Below w.heap.size w wc.drew := G1.drew
  have HA1 : Hid (_ ∧ _ ∧ _ ∧ _) := ⟨A1d, X1d, hd1, G1d⟩
  clear A1d X1d hd1 G1d A1 X1 G1
  go_region_with (go_at_call 123; refine (specRequestOK_any (sC s) (sS s) (sK s) (sL s) (sN s) _ (E3.out ())).mono ?_; rintro e w6 ⟨rfl, b6⟩; have A6 := (b6.block w.heap.size (Nat.lt_of_succ_lt HA1.out.2.2.1)).trans HA1.out.1; have X6 := (b6.block (w.heap.size + 1) HA1.out.2.2.1).trans HA1.out.2.1; have G6 : Below w.heap.size w w6 := HA1.out.2.2.2.trans (b6.mono HA1.out.2.2.2.size); clear b6; obtain ⟨zc0, zf0⟩ := blk_cell A6 0 (x := .int .i64 0) rfl; obtain ⟨zc1, zf1⟩ := blk_cell A6 1 (x := .int .i64 0) rfl; obtain ⟨zc2, zf2⟩ := blk_cell A6 2 (x := .int .i64 0) rfl; obtain ⟨zc3, zf3⟩ := blk_cell A6 3 (x := .int .i64 0) rfl; obtain ⟨zc4, zf4⟩ := blk_cell A6 4 (x := .string ⟨#[]⟩) rfl; have yc0 := (blk_cell X6 0 (x := .int .i64 (sC s)) rfl).1; have yc1 := (blk_cell X6 1 (x := .int .i64 (sS s)) rfl).1; have yc2 := (blk_cell X6 2 (x := .int .i64 (sK s)) rfl).1; have yc3 := (blk_cell X6 3 (x := .int .i64 (sL s)) rfl).1; have yc4 := (blk_cell X6 4 (x := .string (sN s)) rfl).1)
  all_goals
    have AF : (((((w6.setCell ⟨w.heap.size, 0, none⟩ (.int .i64 (sC s))).setCell ⟨w.heap.size, 1, none⟩ (.int .i64 (sS s))).setCell ⟨w.heap.size, 2, none⟩ (.int .i64 (sK s))).setCell ⟨w.heap.size, 3, none⟩ (.int .i64 (sL s))).setCell ⟨w.heap.size, 4, none⟩ (.string (sN s))).heap[w.heap.size]? = some (.cells #[.int .i64 (sC s), .int .i64 (sS s), .int .i64 (sK s), .int .i64 (sL s), .string (sN s)] 118 (0, 0)) := (blk_set (blk_set (blk_set (blk_set (blk_set A6 0 (.int .i64 (sC s))) 1 (.int .i64 (sS s))) 2 (.int .i64 (sK s))) 3 (.int .i64 (sL s))) 4 (.string (sN s)))
    have GF : Below w.heap.size w (((((w6.setCell ⟨w.heap.size, 0, none⟩ (.int .i64 (sC s))).setCell ⟨w.heap.size, 1, none⟩ (.int .i64 (sS s))).setCell ⟨w.heap.size, 2, none⟩ (.int .i64 (sK s))).setCell ⟨w.heap.size, 3, none⟩ (.int .i64 (sL s))).setCell ⟨w.heap.size, 4, none⟩ (.string (sN s))) := (Below.setCell (Below.setCell (Below.setCell (Below.setCell (Below.setCell G6 (p := ⟨w.heap.size, 0, none⟩) (Nat.le_refl _) (.int .i64 (sC s))) (p := ⟨w.heap.size, 1, none⟩) (Nat.le_refl _) (.int .i64 (sS s))) (p := ⟨w.heap.size, 2, none⟩) (Nat.le_refl _) (.int .i64 (sK s))) (p := ⟨w.heap.size, 3, none⟩) (Nat.le_refl _) (.int .i64 (sL s))) (p := ⟨w.heap.size, 4, none⟩) (Nat.le_refl _) (.string (sN s)))
    go_wp2_with fail
    generalize (((((w6.setCell ⟨w.heap.size, 0, none⟩ (.int .i64 (sC s))).setCell ⟨w.heap.size, 1, none⟩ (.int .i64 (sS s))).setCell ⟨w.heap.size, 2, none⟩ (.int .i64 (sK s))).setCell ⟨w.heap.size, 3, none⟩ (.int .i64 (sL s))).setCell ⟨w.heap.size, 4, none⟩ (.string (sN s))) = wf at AF GF ⊢
    have d0 := (blk_cell AF 0 (x := .int .i64 (sC s)) rfl).1
    have d1 := (blk_cell AF 1 (x := .int .i64 (sS s)) rfl).1
    have d2 := (blk_cell AF 2 (x := .int .i64 (sK s)) rfl).1
    have d3 := (blk_cell AF 3 (x := .int .i64 (sL s)) rfl).1
    have d4 := (blk_cell AF 4 (x := .string (sN s)) rfl).1
    refine bodyPost_ret (v := .tuple #[.agg #[.int .i64 (sC s), .int .i64 (sS s), .int .i64 (sK s), .int .i64 (sL s), .string (sN s)], .bool (reqB (sC s) (sS s) (sK s) (sL s) (sN s))]) (by simp [results, Tryz.results98, go_sem, d0, d1, d2, d3, d4]) rfl ⟨rfl, GF⟩

theorem l02ReadRequest_no (s : ByteArray) (w : World) (hs : s.size ≤ 65536) (hno : ∀ h : 6 < s.size, s.size ≠ 7 + (s[6]'h).toNat) :
    Calls Tryz.prog 98 #[.string s] w fun e w' => e = .returned (.tuple #[.agg zreq, .bool false]) ∧ Below w.heap.size w w' := by
  by_cases h7 : 6 < s.size
  · have hq := hno h7
    have h6 : (7 : Int) ≤ (s.size : Int) := by omega
    have hb := (s[6]'h7).toNat_lt
    have hne : ((s.size : Int) != (7 : Int) + ((s[6]'h7).toNat : Int)) = true := by rw [bne_iff_ne]; omega
    clear hno hq
    go_enter Tryz.func98, Tryz.ntmps98
    go_wp2_with fail
    refine bodyPost_ret (v := .tuple #[.agg zreq, .bool false]) (by simp [zreq, results, Tryz.results98, go_sem]) rfl ⟨rfl, (Below.refl _ _).alloc (Nat.le_refl _) _⟩
  · have h6 : (s.size : Int) < 7 := by omega
    clear hno
    go_enter Tryz.func98, Tryz.ntmps98
    go_wp2_with fail
    refine bodyPost_ret (v := .tuple #[.agg zreq, .bool false]) (by simp [zreq, results, Tryz.results98, go_sem]) rfl ⟨rfl, (Below.refl _ _).alloc (Nat.le_refl _) _⟩
end Go.Proofs.YtkfiahemgdppfaaGreatDoor.Of

/- The bytes of a text; what impl takes and what the specification reads are one. -/
namespace Go.Proofs.YtkfiahemgdppfaaGreatDoor.Of
open Go.RowKit Go.Proofs.YtkfiahemgdppfaaGreatDoor.Sl Go.Proofs.YtkfiahemgdppfaaGreatDoor.By Go.Proofs.YtkfiahemgdppfaaGreatDoor.Ap Go.Proofs.YtkfiahemgdppfaaGreatDoor.Rq Go.Proofs.YtkfiahemgdppfaaGreatDoor.Rr

theorem bys_str (xs : List Int) (h : ∀ x ∈ xs, 0 ≤ x ∧ x ≤ 255) : bys (strOfNums xs) = xs := by
  unfold bys
  rw [strOfNums_data, List.map_map]
  apply List.ext_getElem?
  intro i
  rw [List.getElem?_map]
  cases hx : xs[i]? with
  | none => rfl
  | some x =>
    have := h x (List.mem_of_getElem? hx)
    simp only [Option.map_some, Function.comp_apply]
    congr 1
    rw [UInt8.toNat_ofNat_of_lt' (by unfold UInt8.size; omega)]
    omega
theorem str_bys (s : ByteArray) : strOfNums (bys s) = s := by
  unfold bys strOfNums
  rw [List.map_map]
  have : ((fun n : Int => UInt8.ofNat n.toNat) ∘ fun b : UInt8 => ((b.toNat : Nat) : Int)) = id := by
    funext b
    simp
  rw [this, List.map_id]
theorem bys_ext (s : ByteArray) (a b : Nat) : bys (s.extract a b) = ((bys s).take b).drop a := by
  unfold bys
  rw [show (s.extract a b).data = s.data.extract a b from by simp [ByteArray.data_extract], Array.toList_extract, List.extract_eq_take_drop, List.map_take, List.map_drop, List.drop_take]
theorem bys_size (s : ByteArray) : s.size = (bys s).length := (bys_length s).symm

theorem tk_yes {n : Nat} {xs : List Int} (h : n ≤ xs.length) : tkB n xs = xs.take n ∧ tkR n xs = xs.drop n ∧ ∀ sh, tkS n xs sh = sh :=
  ⟨if_neg (by omega), if_neg (by omega), fun sh => by unfold tkS; simp; omega⟩
theorem tk_no {n : Nat} {xs : List Int} (h : xs.length < n) (sh : Bool) : tkS n xs sh = true := by unfold tkS; simp [h]
theorem tk_true (n : Nat) (xs : List Int) : tkS n xs true = true := rfl
theorem txt_true (n : Nat) (xs : List Int) : txtS n xs true = true := rfl
theorem be1 {xs : List Int} (h : 0 < xs.length) : beN (xs.take 1) = nth xs 0 := by
  cases xs with
  | nil => cases h
  | cons x xs => simp [beN, nth]
theorem short7 (xs : List Int) (h : xs.length < 7) : rqSh xs false = true := by
  match xs, h with
  | [], _ => rfl
  | [_], _ => rfl
  | [_, _], _ => rfl
  | [_, _, _], _ => rfl
  | [_, _, _, _], _ => rfl
  | [_, _, _, _, _], _ => rfl
  | [_, _, _, _, _, _], _ => rfl
theorem long7 (xs : List Int) (h : 7 ≤ xs.length) (_hr : ∀ x ∈ xs, 0 ≤ x ∧ x ≤ 255) :
    rqC xs = nth xs 0 ∧ rqS xs = beN ((xs.drop 1).take 2) ∧ rqK xs = nth xs 3 ∧ rqL xs = beN ((xs.drop 4).take 2) ∧ rqT xs = xs.drop 6 ∧ rqSh xs false = txtS 1 (xs.drop 6) false := by
  obtain ⟨a1, a2, a3⟩ := tk_yes (n := 1) (xs := xs) (by omega)
  obtain ⟨b1, b2, b3⟩ := tk_yes (n := 2) (xs := xs.drop 1) (by rw [List.length_drop]; omega)
  rw [List.drop_drop] at b2
  obtain ⟨c1, c2, c3⟩ := tk_yes (n := 1) (xs := xs.drop 3) (by rw [List.length_drop]; omega)
  rw [List.drop_drop] at c2
  obtain ⟨d1, d2, d3⟩ := tk_yes (n := 2) (xs := xs.drop 4) (by rw [List.length_drop]; omega)
  rw [List.drop_drop] at d2
  unfold rqC rqS rqK rqL rqSh rqT
  simp only [a1, a2, a3, b1, b2, b3, c1, c2, c3, d1, d2, d3, Nat.reduceAdd]
  refine ⟨be1 (by omega), trivial, ?_, trivial, trivial, trivial⟩
  rw [be1 (by rw [List.length_drop]; omega), nth_drop]
theorem txt1 (ys : List Int) (h : 0 < ys.length) (_hr : ∀ x ∈ ys, 0 ≤ x ∧ x ≤ 255) :
    txtN 1 ys = (nth ys 0).toNat ∧ tkR 1 ys = ys.drop 1 ∧ tkS 1 ys false = false := by
  obtain ⟨a1, a2, a3⟩ := tk_yes (n := 1) (xs := ys) (by omega)
  unfold txtN
  rw [a1, be1 h, a2, a3]
  exact ⟨rfl, rfl, rfl⟩
theorem str_at (xs : List Int) (hr : ∀ x ∈ xs, 0 ≤ x ∧ x ≤ 255) (i : Nat) (h : i < (strOfNums xs).size) : (((strOfNums xs)[i]'h).toNat : Int) = nth xs i := by
  rw [← bys_at _ i h, bys_str xs hr]
theorem eq_req_yes (xs : List Int) (hr : ∀ x ∈ xs, 0 ≤ x ∧ x ≤ 255) (h : 6 < (strOfNums xs).size) (hq : (strOfNums xs).size = 7 + ((strOfNums xs)[6]'h).toNat) :
    rqC xs = sC (strOfNums xs) ∧ rqS xs = sS (strOfNums xs) ∧ rqK xs = sK (strOfNums xs) ∧ rqL xs = sL (strOfNums xs) ∧ rqN xs = sN (strOfNums xs) ∧ rqSh xs false = false ∧ rqRest xs = [] := by
  have h6 := str_at xs hr 6 h
  have hz := strOfNums_size xs
  rw [hz] at h
  have hq' : (xs.length : Int) = 7 + nth xs 6 := by rw [← h6, ← hz]; omega
  have h60 := range_at hr 6
  obtain ⟨a1, a2, a3, a4, a5, a6⟩ := long7 xs (by omega) hr
  have hr6 : ∀ x ∈ xs.drop 6, 0 ≤ x ∧ x ≤ 255 := fun x hx => hr x (List.mem_of_mem_drop hx)
  obtain ⟨b1, b2, b3⟩ := txt1 (xs.drop 6) (by rw [List.length_drop]; omega) hr6
  rw [nth_drop] at b1
  rw [List.drop_drop] at b2
  have hl7 : (xs.drop (6 + 1)).length = (nth xs 6).toNat := by rw [List.length_drop]; omega
  obtain ⟨c1, c2, c3⟩ := tk_yes (n := (nth xs 6).toNat) (xs := xs.drop (6 + 1)) (by omega)
  have e7 : bys (strOfNums xs) = xs := bys_str xs hr
  refine ⟨?_, ?_, ?_, ?_, ?_, ?_, ?_⟩
  · rw [a1]; unfold sC; rw [e7]
  · rw [a2]; unfold sS; rw [bys_ext, e7, List.take_drop]
  · rw [a3]; unfold sK; rw [e7]
  · rw [a4]; unfold sL; rw [bys_ext, e7, List.take_drop]
  · unfold rqN txtB
    rw [a5, b1, b2, c1, List.take_of_length_le (by omega)]
    have := str_bys (sN (strOfNums xs))
    rw [← this]
    unfold sN
    rw [bys_ext, e7, hz, List.take_length]
  · rw [a6]; unfold txtS; rw [b1, b2, b3, c3]
  · unfold rqRest txtR; rw [a5, b1, b2, c2, List.drop_drop]; exact List.drop_eq_nil_of_le (by rw [List.length_drop] at hl7; omega)
theorem eq_req_no (xs : List Int) (hr : ∀ x ∈ xs, 0 ≤ x ∧ x ≤ 255) (hno : ∀ h : 6 < (strOfNums xs).size, (strOfNums xs).size ≠ 7 + ((strOfNums xs)[6]'h).toNat) (b : Bool) :
    (!rqSh xs false && ((rqRest xs).isEmpty && b)) = false := by
  have hz := strOfNums_size xs
  by_cases h7 : 7 ≤ xs.length
  · have h : 6 < (strOfNums xs).size := by omega
    have h6 := str_at xs hr 6 h
    have hq := hno h
    have hq' : (xs.length : Int) ≠ 7 + nth xs 6 := by rw [← h6, ← hz]; omega
    have h60 := range_at hr 6
    obtain ⟨a1, a2, a3, a4, a5, a6⟩ := long7 xs (by omega) hr
    have hr6 : ∀ x ∈ xs.drop 6, 0 ≤ x ∧ x ≤ 255 := fun x hx => hr x (List.mem_of_mem_drop hx)
    obtain ⟨b1, b2, b3⟩ := txt1 (xs.drop 6) (by rw [List.length_drop]; omega) hr6
    rw [nth_drop] at b1
    rw [List.drop_drop] at b2
    rw [a6]
    unfold rqRest txtR txtS
    rw [a5, b1, b2, b3]
    by_cases hlt : (xs.drop (6 + 1)).length < (nth xs 6).toNat
    · rw [tk_no hlt]; rfl
    · obtain ⟨c1, c2, c3⟩ := tk_yes (n := (nth xs 6).toNat) (xs := xs.drop (6 + 1)) (by omega)
      rw [c2, c3, List.drop_drop]
      have : (xs.drop (6 + 1 + (nth xs 6).toNat)).isEmpty = false := by
        rw [List.length_drop] at hlt
        cases he : xs.drop (6 + 1 + (nth xs 6).toNat) with
        | nil =>
          have := congrArg List.length he
          rw [List.length_drop] at this
          simp at this
          omega
        | cons y ys => rfl
      rw [this]
      rfl
  · rw [short7 xs (by omega)]
    rfl

theorem rqN_small (xs : List Int) (hx : xs.length ≤ 1048576) : (rqN xs).size ≤ maxLen := by
  have h1 : ∀ n (ys : List Int), (tkB n ys).length ≤ ys.length := by intro n ys; unfold tkB; split; simp; rw [List.length_take]; omega
  have h2 := h1 (txtN 1 (rqT xs)) (tkR 1 (rqT xs))
  have h3 := tkR_len 1 (rqT xs)
  have h4 : (rqT xs).length ≤ xs.length := Nat.le_trans (tkR_len _ _) (Nat.le_trans (tkR_len _ _) (Nat.le_trans (tkR_len _ _) (tkR_len _ _)))
  unfold rqN txtB maxLen
  rw [strOfNums_size]
  omega
/-- What both answer. -/
def readReq (xs : List Int) : Value := rjV zreq #[.int .i64 (rqC xs), .int .i64 (rqS xs), .int .i64 (rqK xs), .int .i64 (rqL xs), .string (rqN xs)] (decide (65536 < xs.length)) (!rqSh xs false && ((rqRest xs).isEmpty && reqB (rqC xs) (rqS xs) (rqK xs) (rqL xs) (rqN xs)))
theorem readReq_form (xs : List Int) : ∃ (c st k l : Int) (n : ByteArray) (code : Int), readReq xs = .tuple #[.agg #[.int .i64 c, .int .i64 st, .int .i64 k, .int .i64 l, .string n], .int .i64 code] := by
  unfold readReq rjV
  split
  · exact ⟨0, 0, 0, 0, ⟨#[]⟩, 2, rfl⟩
  · split
    · exact ⟨_, _, _, _, _, 0, rfl⟩
    · exact ⟨0, 0, 0, 0, ⟨#[]⟩, 3, rfl⟩

end Go.Proofs.YtkfiahemgdppfaaGreatDoor.Of

/- A list is read: the specification. -/
namespace Go.Proofs.YtkfiahemgdppfaaGreatDoor.Rl
open Go.RowKit Go.Proofs.YtkfiahemgdppfaaGreatDoor.Sl Go.Proofs.YtkfiahemgdppfaaGreatDoor.By Go.Proofs.YtkfiahemgdppfaaGreatDoor.Ap Go.Proofs.YtkfiahemgdppfaaGreatDoor.Rq Go.Proofs.YtkfiahemgdppfaaGreatDoor.Rr Go.Proofs.YtkfiahemgdppfaaGreatDoor.Ty Go.Proofs.YtkfiahemgdppfaaGreatDoor.Tl Go.Proofs.YtkfiahemgdppfaaGreatDoor.Of

theorem lS_true (ys : List Int) (sh : Bool) {k n : Nat} (hk : k ≤ n) (h : lS ys sh k = true) : lS ys sh n = true := by
  induction n with
  | zero => obtain rfl : k = 0 := by omega
            exact h
  | succ n ih =>
    by_cases e : k = n + 1
    · subst e; exact h
    · have := ih (by omega)
      unfold lS
      rw [this]
      exact txt_true 2 _
theorem lT_at (ys : List Int) : ∀ (n j : Nat), j < n → tnth (lT ys n) j = txtB 2 (lR ys j)
  | 0, j, h => absurd h (by omega)
  | n + 1, j, h => by
    unfold tnth
    rw [List.getD_eq_getElem?_getD]
    unfold lT
    by_cases e : j < n
    · rw [List.getElem?_append_left (by rw [lT_length]; exact e)]
      have := lT_at ys n j e
      unfold tnth at this
      rw [List.getD_eq_getElem?_getD] at this
      exact this
    · obtain rfl : j = n := by omega
      rw [List.getElem?_append_right (by rw [lT_length]; exact Nat.le_refl _), lT_length, Nat.sub_self]
      rfl
/-- Whether bytes tell a list. -/
def rdOk (xs : List Int) : Bool := !lS (tkR 1 xs) (tkS 1 xs false) (tlN xs) && ((lR (tkR 1 xs) (tlN xs)).isEmpty && okT (lT (tkR 1 xs) (tlN xs)))
def rdOut (xs : List Int) : List ByteArray := if rdOk xs = true then lT (tkR 1 xs) (tlN xs) else []
theorem ok_nil : rdOk [] = false := rfl
theorem ok_many (xs : List Int) (h : 100 < tlN xs) : rdOk xs = false := by
  unfold rdOk okT
  rw [lT_length, decide_eq_false (by omega)]
  simp
theorem ok_short (xs : List Int) {k : Nat} (hk : k ≤ tlN xs) (h : lS (tkR 1 xs) (tkS 1 xs false) k = true) : rdOk xs = false := by
  unfold rdOk
  rw [lS_true _ _ hk h]
  rfl
theorem ok_large (xs : List Int) {k : Nat} (hk : k < tlN xs) (h : 20000 < (txtB 2 (lR (tkR 1 xs) k)).size) : rdOk xs = false := by
  unfold rdOk
  rw [okT_bad (k := k) (by rw [lT_length]; exact hk) (by rw [lT_at _ _ _ hk]; exact h)]
  simp
theorem ok_left (xs : List Int) (h : (lR (tkR 1 xs) (tlN xs)).isEmpty = false) : rdOk xs = false := by
  unfold rdOk
  rw [h]
  simp
theorem ok_good (xs : List Int) (h1 : lS (tkR 1 xs) (tkS 1 xs false) (tlN xs) = false) (h2 : lR (tkR 1 xs) (tlN xs) = []) (h3 : tlN xs ≤ 100) (h4 : ∀ j, j < tlN xs → (txtB 2 (lR (tkR 1 xs) j)).size ≤ 20000) : rdOk xs = true := by
  unfold rdOk
  rw [h1, h2, okT_good (fun j hj => by rw [lT_length] at hj; rw [lT_at _ _ _ hj]; exact h4 j hj), lT_length, decide_eq_true h3]
  rfl
/-- A text that is taken at a place. -/
theorem at_no1 (xs : List Int) (at_ : Nat) (h : xs.length < at_ + 2) (sh : Bool) : txtS 2 (xs.drop at_) sh = true := by
  unfold txtS
  rw [tk_no (n := 2) (xs := xs.drop at_) (by rw [List.length_drop]; omega)]
  rfl
theorem at_num (xs : List Int) (at_ : Nat) (h : at_ + 2 ≤ xs.length) : tkB 2 (xs.drop at_) = (xs.take (at_ + 2)).drop at_ ∧ tkR 2 (xs.drop at_) = xs.drop (at_ + 2) ∧ ∀ sh, tkS 2 (xs.drop at_) sh = sh := by
  obtain ⟨a1, a2, a3⟩ := tk_yes (n := 2) (xs := xs.drop at_) (by rw [List.length_drop]; omega)
  rw [List.drop_drop] at a2
  exact ⟨by rw [a1, List.take_drop], a2, a3⟩
theorem at_no2 (xs : List Int) (at_ : Nat) (h : at_ + 2 ≤ xs.length) (h2 : xs.length < at_ + 2 + txtN 2 (xs.drop at_)) (sh : Bool) : txtS 2 (xs.drop at_) sh = true := by
  obtain ⟨a1, a2, a3⟩ := at_num xs at_ h
  unfold txtS
  rw [a2, tk_no (by rw [List.length_drop]; omega)]
theorem at_yes (xs : List Int) (at_ : Nat) (h : at_ + 2 ≤ xs.length) (h2 : at_ + 2 + txtN 2 (xs.drop at_) ≤ xs.length) :
    txtS 2 (xs.drop at_) false = false ∧ txtR 2 (xs.drop at_) = xs.drop (at_ + 2 + txtN 2 (xs.drop at_)) ∧ txtB 2 (xs.drop at_) = strOfNums ((xs.take (at_ + 2 + txtN 2 (xs.drop at_))).drop (at_ + 2)) ∧ (txtB 2 (xs.drop at_)).size = txtN 2 (xs.drop at_) := by
  obtain ⟨a1, a2, a3⟩ := at_num xs at_ h
  generalize hm : txtN 2 (xs.drop at_) = m at h2 ⊢
  obtain ⟨b1, b2, b3⟩ := tk_yes (n := m) (xs := xs.drop (at_ + 2)) (by rw [List.length_drop]; omega)
  unfold txtS txtR txtB
  rw [hm, a2, a3, b1, b2, b3, List.drop_drop, List.take_drop]
  refine ⟨rfl, rfl, rfl, ?_⟩
  rw [strOfNums_size, List.length_drop, List.length_take]
  omega
theorem own_empty (w : World) (B : Nat) (hB : B ≤ w.heap.size) : OwnS (w.alloc (.cells #[] 9)) B (.slice (some ⟨w.heap.size, 0, none⟩) 0 0) [] :=
  World.ownsRow_made w #[] 0 hB (by decide) (by decide)

/-- 'append(list, t)' of one text in a plain region, where nothing old is written. -/
theorem list_below {P : Program} {ops : Array Oper} {rest : List Oper} {o : Oper} {a : Act} {Q : Exit → Act → World → Prop} (hgd : o.guard = none) (s x : Operand) (t : TypeId)
    (ho : o.op = .call { callee := .builtin .append, args := #[s, x], argTypes := #[t, t] }) (i : TypeInfo) (ht : P.underlying t = some (.slice 9)) (hi : P.info? 9 = some i) (hz : i.zero = some (.string ⟨#[]⟩))
    (hsize : i.size = 1) (hby : i.bytes = 16) (B : Nat) (w0 W : World) (v : Value) (ts : List ByteArray) (z : ByteArray) (hs : a.eval s = v) (hown : OwnS W B v ts) (hg0 : Below B w0 W) (hB : w0.heap.size = B)
    (hx : a.eval x = .slice (some ⟨W.heap.size, 0, none⟩) 1 1) (hlen : ts.length ≤ 1000000)
    (h : ∀ v' w', OwnS w' B v' (ts ++ [z]) → Below B w0 w' → wpList P ops Q rest (a.put o.dst v') w') : wpList P ops Q (o :: rest) a (W.alloc (.cells #[.string z] 9)) := by
  refine list_text hgd s x t ho i ht hi hz hsize hby B B w0 W v ts z hs hown ⟨hg0.os, hg0.tape, hg0.output, hg0.size, fun k hk _ => hg0.block k (by omega)⟩ hB hx hlen ?_
  intro v' w' h1 h2 _
  exact h v' w' h1 ⟨h2.os, h2.tape, h2.output, h2.size, fun k hk => h2.block k (by omega) (by simp; omega)⟩

set_option maxRecDepth 100000 in
set_option maxHeartbeats 1600000 in
theorem l02ReadList_any (s : ByteArray) (w : World) (hs : s.size ≤ 65536) :
    Calls Tryz.prog 68 #[.string s] w fun e w' => ∃ v', e = .returned (.tuple #[v', .bool (rdOk (bys s))]) ∧ OwnS w' w.heap.size v' (rdOut (bys s)) ∧ Below w.heap.size w w' := by
  by_cases h0 : s.size = 0
  · have e0 : s = ⟨#[]⟩ := ByteArray.ext (Array.eq_empty_of_size_eq_zero h0)
    subst e0
    have HE : Hid (rdOk (bys ⟨#[]⟩) = false ∧ rdOut (bys ⟨#[]⟩) = []) := ⟨rfl, rfl⟩
    clear h0 hs
    go_enter Tryz.func68, Tryz.ntmps68
    go_wp2_with fail
    go_ret2
    rw [HE.out.1, HE.out.2]
    exact ⟨_, rfl, own_empty _ _ (Nat.le_refl _), (Below.refl _ _).alloc (Nat.le_refl _) _⟩
  have hpos : 0 < s.size := by omega
  have hb := (s[0]'hpos).toNat_lt
  have hne : s.toList.isEmpty = false := by
    rw [ByteArray.toList_eq, List.isEmpty_eq_false_iff]
    intro hd
    have h1 : s.data.toList.length = 0 := by rw [hd]; rfl
    rw [Array.length_toList] at h1
    exact absurd hpos (by show ¬ 0 < s.data.size; omega)
  have hl0 : 0 < (bys s).length := by rw [bys_length]; exact hpos
  obtain ⟨a1, a2, a3⟩ := tk_yes (n := 1) (xs := bys s) (by omega)
  have HN : Hid (tlN (bys s) = (s[0]'hpos).toNat) := by
    show _ = _
    unfold tlN
    rw [a1, be1 hl0, bys_at s 0 hpos]
    rfl
  have HY : Hid (tkR 1 (bys s) = (bys s).drop 1 ∧ tkS 1 (bys s) false = false) := ⟨a2, a3 false⟩
  clear a1 a2 a3 hl0 h0
  by_cases hmany : 100 < (s[0]'hpos).toNat
  · have hmany' : (100 : Int) < ((s[0]'hpos).toNat : Int) := by omega
    have HE : Hid (rdOk (bys s) = false) := ok_many _ (by rw [HN.out]; exact hmany)
    have HO : Hid (rdOut (bys s) = []) := by show _ = _; unfold rdOut; rw [HE.out]; rfl
    go_enter Tryz.func68, Tryz.ntmps68
    go_wp2_with fail
    go_ret2
    rw [HE.out, HO.out]
    exact ⟨_, rfl, own_empty _ _ (Nat.le_refl _), (Below.refl _ _).alloc (Nat.le_refl _) _⟩
  have hmany' : ((s[0]'hpos).toNat : Int) ≤ 100 := by omega
  go_enter Tryz.func68, Tryz.ntmps68
  have HA : Hid (nth (bys s) 0 = ((s[0]'hpos).toNat : Int)) := bys_at s 0 hpos
  go_wp2_with fail
  have HB0 : Hid (Below w.heap.size w (w.alloc (.cells #[] 9))) := (Below.refl _ _).alloc (Nat.le_refl _) _
  generalize hnn : (s[0]'hpos).toNat = n at hb hmany hmany' HN HA ⊢
  obtain ⟨i0, hi, hz0, hz1, hz2⟩ := info_parts info9
  go_loopw [4, 5, 6] (fun out at_ i wr => ∃ k p : Nat, k ≤ n ∧ p ≤ s.size ∧ i = .int .i64 ((n : Int) - k) ∧ at_ = .int .i64 p ∧ OwnS wr w.heap.size out (lT ((bys s).drop 1) k) ∧ Below w.heap.size w wr ∧ Hid (lR ((bys s).drop 1) k = (bys s).drop p ∧ lS ((bys s).drop 1) false k = false ∧ ∀ j, j < k → (txtB 2 (lR ((bys s).drop 1) j)).size ≤ 20000)) (fun _ _ i _ => (intOf i).toNat)
  case atStart => exact ⟨0, 1, by omega, by omega, by simp, rfl, own_empty _ _ (Nat.le_refl _), HB0.out, ⟨rfl, rfl, fun j hj => absurd hj (by omega)⟩⟩
  case round =>
    clear HB0
    obtain ⟨k, p, hk, hp, rfl, rfl, ho, hbel, HI⟩ := hrel
    by_cases hlt : k < n
    · have hlt' : (0 : Int) < (n : Int) - k := by omega
      by_cases h2 : s.size < p + 2
      · have h2' : (s.size : Int) < (p : Int) + 2 := by omega
        have HE : Hid (rdOk (bys s) = false) := ok_short _ (k := k + 1) (by rw [HN.out]; omega) (by rw [HY.out.1, HY.out.2]; unfold lS; rw [HI.out.1]; exact at_no1 _ _ (by rw [bys_length]; exact h2) _)
        have HO : Hid (rdOut (bys s) = []) := by show _ = _; unfold rdOut; rw [HE.out]; rfl
        go_wp2_with fail
        go_ret2
        rw [HE.out, HO.out]
        exact ⟨_, rfl, own_empty _ _ hbel.size, hbel.alloc hbel.size _⟩
      have h2' : (p : Int) + 2 ≤ (s.size : Int) := by omega
      have hex : (s.extract p (p + 2)).size ≤ 4 := by rw [ByteArray.size_extract]; omega
      have HM : Hid (beN (bys (s.extract p (p + 2))) = (txtN 2 ((bys s).drop p) : Int) ∧ txtN 2 ((bys s).drop p) ≤ 65535) := by
        have hr : ∀ x ∈ (bys s).drop p, 0 ≤ x ∧ x ≤ 255 := fun x hx => bys_range s x (List.mem_of_mem_drop hx)
        obtain ⟨t1, t2⟩ := txtN_le 2 ((bys s).drop p) (by decide) hr
        refine ⟨?_, t1⟩
        rw [← t2, (at_num (bys s) p (by rw [bys_length]; omega)).1, bys_ext]
      go_wp2_with fail
      refine (l02Of_any (s.extract p (p + 2)) _ hex).mono ?_
      rintro e w2 ⟨rfl, hw⟩
      rw [hw, HM.out.1]
      clear hw hex
      have hm := HM.out.2
      have HMM : Hid (txtN 2 (lR ((bys s).drop 1) k) = txtN 2 ((bys s).drop p)) := by show _ = _; rw [HI.out.1]
      obtain ⟨m, HMe⟩ : ∃ m, Hid (txtN 2 ((bys s).drop p) = m) := ⟨_, rfl⟩
      rw [HMe.out] at hm ⊢
      clear HM
      by_cases h3 : s.size < p + 2 + m
      · have h3' : (s.size : Int) < (p : Int) + 2 + (m : Int) := by omega
        have HE : Hid (rdOk (bys s) = false) := ok_short _ (k := k + 1) (by rw [HN.out]; omega) (by rw [HY.out.1, HY.out.2]; unfold lS; rw [HI.out.1]; exact at_no2 _ _ (by rw [bys_length]; omega) (by rw [bys_length, HMe.out]; omega) _)
        have HO : Hid (rdOut (bys s) = []) := by show _ = _; unfold rdOut; rw [HE.out]; rfl
        by_cases h4 : 20000 < m
        · have h4' : (20000 : Int) < (m : Int) := by omega
          go_wp2_with fail
          go_ret2
          rw [HE.out, HO.out]
          exact ⟨_, rfl, own_empty _ _ hbel.size, hbel.alloc hbel.size _⟩
        · have h4' : (m : Int) ≤ 20000 := by omega
          go_wp2_with fail
          go_ret2
          rw [HE.out, HO.out]
          exact ⟨_, rfl, own_empty _ _ hbel.size, hbel.alloc hbel.size _⟩
      have h3' : (p : Int) + 2 + (m : Int) ≤ (s.size : Int) := by omega
      obtain ⟨y1, y2, y3, y4⟩ := at_yes (bys s) p (by rw [bys_length]; omega) (by rw [bys_length, HMe.out]; omega)
      rw [HMe.out] at y2 y3 y4
      rw [← bys_ext, str_bys] at y3
      have Y1 : Hid (txtS 2 ((bys s).drop p) false = false) := y1
      have Y2 : Hid (txtR 2 ((bys s).drop p) = (bys s).drop (p + 2 + m)) := y2
      have Y3 : Hid (txtB 2 ((bys s).drop p) = s.extract (p + 2) (p + 2 + m)) := y3
      have Y4 : Hid ((txtB 2 ((bys s).drop p)).size = m) := y4
      clear y1 y2 y3 y4
      by_cases h4 : 20000 < m
      · have h4' : (20000 : Int) < (m : Int) := by omega
        have HE : Hid (rdOk (bys s) = false) := ok_large _ (k := k) (by rw [HN.out]; omega) (by rw [HY.out.1, HI.out.1, Y4.out]; exact h4)
        have HO : Hid (rdOut (bys s) = []) := by show _ = _; unfold rdOut; rw [HE.out]; rfl
        go_wp2_with fail
        go_ret2
        rw [HE.out, HO.out]
        exact ⟨_, rfl, own_empty _ _ hbel.size, hbel.alloc hbel.size _⟩
      have h4' : (m : Int) ≤ 20000 := by omega
      have hln : (lT ((bys s).drop 1) k).length ≤ 1000000 := by rw [lT_length]; omega
      have HO : Hid (OwnS wr w.heap.size u4 (lT ((bys s).drop 1) k)) := ho
      go_wp2_with (at_builtin; go_must (refine list_below (by rfl) _ _ 28 (by rfl) i0 Tryz.underlying28 hi hz0 hz1 hz2 w.heap.size w wr _ _ (s.extract (p + 2) (p + 2 + m)) (by rfl) ho hbel rfl (by rfl) hln ?_; intro v3 w3 o3 b3))
      refine ⟨⟨k + 1, p + 2 + m, by omega, by omega, val_eq (by omega), val_eq (by omega), ?_, b3, ⟨?_, ?_, ?_⟩⟩, by simp [intOf]; omega⟩
      · unfold lT; rw [HI.out.1, Y3.out]; exact o3
      · unfold lR; rw [HI.out.1, Y2.out]
      · unfold lS; rw [HI.out.1, HI.out.2.1, Y1.out]
      · intro j hj
        by_cases e : j < k
        · exact HI.out.2.2 j e
        · obtain rfl : j = k := by omega
          rw [HI.out.1, Y4.out]; omega
    · have HK : Hid (k = n) := by show _ = _; omega
      have hge : ¬ (0 : Int) < (n : Int) - k := by omega
      by_cases h5 : p = s.size
      · subst h5
        have HE : Hid (rdOk (bys s) = true) := by
          refine ok_good _ ?_ ?_ (by rw [HN.out]; omega) (fun j hj => ?_)
          · rw [HY.out.1, HY.out.2, HN.out, ← HK.out]; exact HI.out.2.1
          · rw [HY.out.1, HN.out, ← HK.out, HI.out.1]; exact List.drop_eq_nil_of_le (by rw [bys_length]; exact Nat.le_refl _)
          · rw [HY.out.1]; exact HI.out.2.2 j (by rw [HK.out, ← HN.out]; exact hj)
        have HO : Hid (rdOut (bys s) = lT ((bys s).drop 1) k) := by show _ = _; unfold rdOut; rw [if_pos HE.out, HY.out.1, HN.out, HK.out]
        have hpe : ((s.size : Int) != (s.size : Int)) = false := by simp
        go_wp2_with fail
        go_ret2
        rw [HE.out, HO.out]
        exact ⟨_, rfl, ho, hbel⟩
      · have h5' : ((p : Int) != (s.size : Int)) = true := by simp; omega
        have h5i : ¬ (p : Int) = (s.size : Int) := by omega
        have HE : Hid (rdOk (bys s) = false) := ok_left _ (by
          rw [HY.out.1, HN.out, ← HK.out, HI.out.1]
          cases hd : (bys s).drop p with
          | nil => have := congrArg List.length hd; rw [List.length_drop, bys_length] at this; simp at this; omega
          | cons _ _ => rfl)
        have HO : Hid (rdOut (bys s) = []) := by show _ = _; unfold rdOut; rw [HE.out]; rfl
        go_wp2_with fail
        go_ret2
        rw [HE.out, HO.out]
        exact ⟨_, rfl, own_empty _ _ hbel.size, hbel.alloc hbel.size _⟩
end Go.Proofs.YtkfiahemgdppfaaGreatDoor.Rl
