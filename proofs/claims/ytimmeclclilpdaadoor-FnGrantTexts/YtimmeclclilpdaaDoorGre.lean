/- A grant's text, of the specification; both GrantText functions. -/
import Derived.Test.YtimmeclclilpdaaDoorGrd
import Derived.BigQuiet
namespace Go.Proofs.YtimmeclclilpdaaDoor.Gr12
open Go.RowKit Go.Sort Go.Proofs.YtimmeclclilpdaaDoor.Bd12 Go.Proofs.YtimmeclclilpdaaDoor.Ap
open Go.Lib (decDigits itoa)
open Go.Proofs.YtimmeclclilpdaaDoor.Rq (inB opB ret_bool)

theorem digits_any (z : Int) (h0 : 0 ≤ z) (h1 : z < 1000000000000000000) (w : World) : Calls Tryd.prog 58 #[.int .i64 z] w fun e w' => e = .returned (.string (baL (itoa z))) ∧ Below w.heap.size w w' := by
  have := l00Digits_any 18 z.toNat w (by omega) (by decide)
  rw [Int.toNat_of_nonneg h0] at this
  have e : itoa z = decDigits z.toNat := by unfold itoa; rw [if_neg (by omega)]
  rwa [e]
theorem tx_parts (g : Gg) : ((((((⟨#[103, 114, 97, 110, 116, 32]⟩ : ByteArray) ++ g.nm) ++ (⟨#[32]⟩ : ByteArray)) ++ baL (itoa g.hd)) ++ (⟨#[32]⟩ : ByteArray)) ++ baL (itoa g.tk)) ++ (⟨#[32]⟩ : ByteArray) ++ baL (itoa g.ex) = tx g := by
  have h6 : (⟨#[103, 114, 97, 110, 116, 32]⟩ : ByteArray) = baL (wrd ++ [32]) := rfl
  have h1 : (⟨#[32]⟩ : ByteArray) = baL [32] := rfl
  rw [h6, h1, ← baL_back g.nm]
  simp only [baL_app]
  unfold tx txL baL
  congr 2
  simp
set_option maxRecDepth 100000 in
set_option maxHeartbeats 1600000 in
theorem l12Text_any (g : Gg) (w : World) (hn : g.nm.size ≤ 12) (hr : Rng g.hd g.tk g.ex) :
    Calls Tryd.prog 32 #[gV g] w fun e w' => e = .returned (.string (tx g)) ∧ Below w.heap.size w w' := by
  have HT : Hid (((((((⟨#[103, 114, 97, 110, 116, 32]⟩ : ByteArray) ++ g.nm) ++ (⟨#[32]⟩ : ByteArray)) ++ baL (itoa g.hd)) ++ (⟨#[32]⟩ : ByteArray)) ++ baL (itoa g.tk)) ++ (⟨#[32]⟩ : ByteArray) ++ baL (itoa g.ex) = tx g) := tx_parts g
  have l1 : (baL (itoa g.hd)).size ≤ 18 := by rw [baL_size]; exact itoa_len _ hr.1 hr.2.1
  have l2 : (baL (itoa g.tk)).size ≤ 18 := by rw [baL_size]; exact itoa_len _ hr.2.2.1 hr.2.2.2.1
  have l3 : (baL (itoa g.ex)).size ≤ 18 := by rw [baL_size]; exact itoa_len _ hr.2.2.2.2.1 hr.2.2.2.2.2
  have HD1 : Hid (∀ W, Calls Tryd.prog 58 #[.int .i64 g.hd] W fun e w' => e = .returned (.string (baL (itoa g.hd))) ∧ Below W.heap.size W w') := fun W => digits_any _ hr.1 hr.2.1 W
  have HD2 : Hid (∀ W, Calls Tryd.prog 58 #[.int .i64 g.tk] W fun e w' => e = .returned (.string (baL (itoa g.tk))) ∧ Below W.heap.size W w') := fun W => digits_any _ hr.2.2.1 hr.2.2.2.1 W
  have HD3 : Hid (∀ W, Calls Tryd.prog 58 #[.int .i64 g.ex] W fun e w' => e = .returned (.string (baL (itoa g.ex))) ∧ Below W.heap.size W w') := fun W => digits_any _ hr.2.2.2.2.1 hr.2.2.2.2.2 W
  generalize baL (itoa g.hd) = d1 at HT HD1 l1
  generalize baL (itoa g.tk) = d2 at HT HD2 l2
  generalize baL (itoa g.ex) = d3 at HT HD3 l3
  clear hr
  have HX : Hid (∀ W, Below (w.alloc (.cells #[.string g.nm, .int .i64 g.hd, .int .i64 g.tk, .int .i64 g.ex] 24)).heap.size (w.alloc (.cells #[.string g.nm, .int .i64 g.hd, .int .i64 g.tk, .int .i64 g.ex] 24)) W → (W.cell? ⟨w.heap.size, 0, none⟩ = some (.string g.nm) ∧ W.cell? ⟨w.heap.size, 1, none⟩ = some (.int .i64 g.hd) ∧ W.cell? ⟨w.heap.size, 2, none⟩ = some (.int .i64 g.tk) ∧ W.cell? ⟨w.heap.size, 3, none⟩ = some (.int .i64 g.ex)) ∧ Below w.heap.size w W) := fun W hW => by
    have h1 := (hW.block w.heap.size (by simp)).trans (heap_alloc_new w _)
    exact ⟨⟨by simp [World.cell?, h1], by simp [World.cell?, h1], by simp [World.cell?, h1], by simp [World.cell?, h1]⟩, (bel1 w _).trans (hW.mono (by simp))⟩
  unfold gV
  go_enter Tryd.func32, Tryd.ntmps32
  go_upto_region 1 with fail
  generalize w.alloc (.cells #[.string g.nm, .int .i64 g.hd, .int .i64 g.tk, .int .i64 g.ex] 24) = wb at HX ⊢
  obtain ⟨X, hX, W, QI0, QO0⟩ := Qc.klass wb
  have QI : Hid (∀ w', Below wb.heap.size wb w' → ∃ x, w' = W x) := QI0
  have QO : Hid (∀ x, Below wb.heap.size wb (W x)) := QO0
  clear QI0 QO0
  obtain ⟨⟨c0, c1, c2, c3⟩, _⟩ := HX.out wb (Below.refl _ _)
  have y0 := Qc.cell_all QO.out c0
  have y1 := Qc.cell_all QO.out c1
  have y2 := Qc.cell_all QO.out c2
  have y3 := Qc.cell_all QO.out c3
  clear c0 c1 c2 c3
  refine Qc.region_class (W := W) (by kernel_rfl) (by kernel_rfl) (QI.out _ Qc.from_drew) ?_
  repeat (go_big_quiet_step (first | (go_at_call 58; (first | (with_reducible refine (HD1.out _).mono ?_) | (with_reducible refine (HD2.out _).mono ?_) | (with_reducible refine (HD3.out _).mono ?_)); rintro e w2 ⟨rfl, b2⟩; exact ⟨rfl, Qc.back QI.out QO.out b2⟩)))
  refine wpQuiet_nil ?_
  rintro _ ⟨xq, rfl⟩
  have G : Hid (Below w.heap.size w (W xq)) := (HX.out _ (QO.out xq)).2
  go_wp2_with fail
  go_ret
  exact ⟨ret_str HT.out, G.out⟩
theorem ret_si {a b : ByteArray} {c d : Int} (h : a = b ∧ c = d) : Ending.returned (.tuple #[.string a, .int .i64 c]) = .returned (.tuple #[.string b, .int .i64 d]) := by rw [h.1, h.2]
/-- What GrantText answers. -/
def gtS (g : Gg) : ByteArray := if grB g then tx g else ⟨#[]⟩
def gtC (g : Gg) : Int := if grB g then 0 else 1
theorem tx_small {g : Gg} (h : grB g = true) : (tx g).size ≤ 100 := by
  obtain ⟨hn, hr⟩ := grB_ok g h
  have h12 := (nmd_of (grB_parts h).1).2
  have hl : g.nm.data.toList.length = g.nm.size := by simp
  have e : (tx g).size = (txL g.nm.data.toList g.hd g.tk g.ex).length := baL_size _
  rw [e]
  unfold txL wrd
  have l1 := itoa_len g.hd hr.1 hr.2.1
  have l2 := itoa_len g.tk hr.2.2.1 hr.2.2.2.1
  have l3 := itoa_len g.ex hr.2.2.2.2.1 hr.2.2.2.2.2
  simp only [List.length_append, List.length_cons, List.length_nil]
  omega
set_option maxRecDepth 100000 in
set_option maxHeartbeats 1600000 in
theorem specGrantText_any (g : Gg) (w : World) (hs : g.nm.size ≤ maxLen) :
    Calls Tryd.prog 11 #[gV g] w fun e w' => e = .returned (.tuple #[.string (gtS g), .int .i64 (gtC g)]) ∧ Below w.heap.size w w' := by
  have HX : Hid (∀ W, Below (w.alloc (.cells #[.string g.nm, .int .i64 g.hd, .int .i64 g.tk, .int .i64 g.ex] 24)).heap.size (w.alloc (.cells #[.string g.nm, .int .i64 g.hd, .int .i64 g.tk, .int .i64 g.ex] 24)) W → (W.cell? ⟨w.heap.size, 0, none⟩ = some (.string g.nm) ∧ W.cell? ⟨w.heap.size, 1, none⟩ = some (.int .i64 g.hd) ∧ W.cell? ⟨w.heap.size, 2, none⟩ = some (.int .i64 g.tk) ∧ W.cell? ⟨w.heap.size, 3, none⟩ = some (.int .i64 g.ex)) ∧ Below w.heap.size w W) := fun W hW => by
    have h1 := (hW.block w.heap.size (by simp)).trans (heap_alloc_new w _)
    exact ⟨⟨by simp [World.cell?, h1], by simp [World.cell?, h1], by simp [World.cell?, h1], by simp [World.cell?, h1]⟩, (bel1 w _).trans (hW.mono (by simp))⟩
  have HO : Hid (∀ W, Calls Tryd.prog 31 #[.agg #[.string g.nm, .int .i64 g.hd, .int .i64 g.tk, .int .i64 g.ex]] W fun e w' => e = .returned (.bool (grB g)) ∧ Below W.heap.size W w') := fun W => specGrantOK_any g W hs
  clear hs
  unfold gV
  cases h : grB g with
  | false =>
    have HE : Hid (gtS g = ⟨#[]⟩ ∧ gtC g = 1) := by show _ ∧ _; unfold gtS gtC; rw [h]; exact ⟨rfl, rfl⟩
    rw [h] at HO
    clear h
    go_enter Tryd.func11, Tryd.ntmps11
    go_upto_region 1 with fail
    generalize w.alloc (.cells #[.string g.nm, .int .i64 g.hd, .int .i64 g.tk, .int .i64 g.ex] 24) = wb at HX ⊢
    obtain ⟨⟨c0, c1, c2, c3⟩, _⟩ := HX.out wb (Below.refl _ _)
    go_wp2_with fail
    refine (HO.out _).mono ?_
    rintro e w1 ⟨rfl, b1⟩
    have G : Hid (Below w.heap.size w w1) := (HX.out _ b1).2
    clear b1
    go_wp2_with fail
    go_ret2
    exact ⟨ret_si ⟨HE.out.1.symm, HE.out.2.symm⟩, G.out⟩
  | true =>
    have HE : Hid (gtS g = tx g ∧ gtC g = 0) := by show _ ∧ _; unfold gtS gtC; rw [h]; exact ⟨rfl, rfl⟩
    have HTX := (show Hid (∀ W, Below w.heap.size w W → Calls Tryd.prog 32 #[.agg #[.string g.nm, .int .i64 g.hd, .int .i64 g.tk, .int .i64 g.ex]] W fun e w' => e = .returned (.string (tx g)) ∧ Below W.heap.size W w') from fun W _ => l12Text_any g W (nmd_of (grB_parts h).1).2 (grB_ok g h).2)
    rw [h] at HO
    clear h
    go_enter Tryd.func11, Tryd.ntmps11
    go_upto_region 1 with fail
    generalize w.alloc (.cells #[.string g.nm, .int .i64 g.hd, .int .i64 g.tk, .int .i64 g.ex] 24) = wb at HX ⊢
    obtain ⟨⟨c0, c1, c2, c3⟩, _⟩ := HX.out wb (Below.refl _ _)
    go_wp2_with fail
    refine (HO.out _).mono ?_
    rintro e w1 ⟨rfl, b1⟩
    have B1 : Hid (Below wb.heap.size wb w1) := b1
    clear b1 c0 c1 c2 c3
    obtain ⟨⟨c0, c1, c2, c3⟩, _⟩ := HX.out w1 B1.out
    go_wp2_with fail
    refine (HTX.out _ (HX.out _ B1.out).2).mono ?_
    rintro e w2 ⟨rfl, b2⟩
    have G : Hid (Below w.heap.size w w2) := (HX.out _ (B1.out.trans (b2.mono B1.out.size))).2
    clear b2
    go_wp2_with fail
    go_ret2
    exact ⟨ret_si ⟨HE.out.1.symm, HE.out.2.symm⟩, G.out⟩
/-- The first k numbers, each behind a blank. -/
def numL (g : Gg) : Nat → List UInt8
  | 0 => []
  | 1 => 32 :: itoa g.hd
  | 2 => 32 :: itoa g.hd ++ 32 :: itoa g.tk
  | _ => 32 :: itoa g.hd ++ (32 :: itoa g.tk ++ 32 :: itoa g.ex)
def nmAt (g : Gg) : Nat → Int
  | 0 => g.hd
  | 1 => g.tk
  | _ => g.ex
theorem index3 (g : Gg) (k : Nat) (h : k < 3) (W : World) : (Instr.index 80 (.agg #[.int .i64 g.hd, .int .i64 g.tk, .int .i64 g.ex]) (.int .i64 (k : Int))).run Tryd.prog W = .ok (.int .i64 (nmAt g k)) W := by
  rcases (by omega : k = 0 ∨ k = 1 ∨ k = 2) with rfl | rfl | rfl
  all_goals simp [Instr.index, go_sem, nmAt]
def preL (g : Gg) : List UInt8 := wrd ++ [32] ++ g.nm.data.toList
theorem tx_num (g : Gg) : (⟨(preL g ++ numL g 3).toArray⟩ : ByteArray) = tx g := by
  unfold tx txL preL numL
  simp
theorem num_succ (g : Gg) (k : Nat) (h : k < 3) : numL g (k + 1) = (numL g k ++ [32]) ++ itoa (nmAt g k) := by
  rcases (by omega : k = 0 ∨ k = 1 ∨ k = 2) with rfl | rfl | rfl <;> simp [numL, nmAt]
theorem num_len (g : Gg) (hr : Rng g.hd g.tk g.ex) (k : Nat) : (numL g k).length ≤ 100 := by
  have l1 := itoa_len g.hd hr.1 hr.2.1
  have l2 := itoa_len g.tk hr.2.2.1 hr.2.2.2.1
  have l3 := itoa_len g.ex hr.2.2.2.2.1 hr.2.2.2.2.2
  match k with
  | 0 => simp [numL]
  | 1 => simp [numL]; omega
  | 2 => simp [numL]; omega
  | k + 3 => simp [numL]; omega
set_option maxRecDepth 100000 in
set_option maxHeartbeats 1600000 in
theorem writtenGrant_any (g : Gg) (w : World) (hn : g.nm.size ≤ 12) (hr : Rng g.hd g.tk g.ex) (hP : PTab w) :
    Calls Tryd.prog 30 #[gV g] w fun e w' => e = .returned (.string (tx g)) ∧ Below w.heap.size w w' := by
  have HP : Hid (PTab w) := hP
  have HN : Hid (∀ k, (numL g k).length ≤ 100) := num_len g hr
  have HPL : Hid ((preL g).length ≤ 100) := by
    show (preL g).length ≤ 100
    have hl : g.nm.data.toList.length = g.nm.size := by simp
    unfold preL wrd
    simp only [List.length_append, List.length_cons, List.length_nil]
    omega
  have HI : Hid (∀ W k, k < 3 → PTab W → Calls Tryd.prog 55 #[.int .i64 (nmAt g k)] W fun e w' => e = .returned (.string (baL (itoa (nmAt g k)))) ∧ Below W.heap.size W w') := fun W k hk hW => by
    refine itoa_any _ ?_ ?_ W hW
    · rcases (by omega : k = 0 ∨ k = 1 ∨ k = 2) with rfl | rfl | rfl <;> (simp only [nmAt]; unfold Rng at hr; omega)
    · rcases (by omega : k = 0 ∨ k = 1 ∨ k = 2) with rfl | rfl | rfl <;> (simp only [nmAt]; unfold Rng at hr; omega)
  have HIL : Hid (∀ k, k < 3 → (itoa (nmAt g k)).length ≤ 18) := fun k hk => by
    refine itoa_len _ ?_ ?_
    · rcases (by omega : k = 0 ∨ k = 1 ∨ k = 2) with rfl | rfl | rfl <;> (simp only [nmAt]; unfold Rng at hr; omega)
    · rcases (by omega : k = 0 ∨ k = 1 ∨ k = 2) with rfl | rfl | rfl <;> (simp only [nmAt]; unfold Rng at hr; omega)
  have HX : Hid (∀ W, Below (w.heap.size + 1) ((w.alloc (.cells #[.string g.nm, .int .i64 g.hd, .int .i64 g.tk, .int .i64 g.ex] 24)).alloc (.cells #[.pointer none, .slice none 0 0] 75)) W → (W.cell? ⟨w.heap.size, 0, none⟩ = some (.string g.nm) ∧ W.cell? ⟨w.heap.size, 1, none⟩ = some (.int .i64 g.hd) ∧ W.cell? ⟨w.heap.size, 2, none⟩ = some (.int .i64 g.tk) ∧ W.cell? ⟨w.heap.size, 3, none⟩ = some (.int .i64 g.ex)) ∧ Below w.heap.size w W) := fun W hW => by
    have h1 := ((hW.block w.heap.size (by omega)).trans ((bel1 (w.alloc (.cells #[.string g.nm, .int .i64 g.hd, .int .i64 g.tk, .int .i64 g.ex] 24)) (.cells #[.pointer none, .slice none 0 0] 75)).block _ (by simp))).trans (heap_alloc_new w _)
    exact ⟨⟨by simp [World.cell?, h1], by simp [World.cell?, h1], by simp [World.cell?, h1], by simp [World.cell?, h1]⟩, ((bel1 w _).trans ((bel1 _ _).mono (bel1 w _).size)).trans (hW.mono (by omega))⟩
  have B0 : Hid (Bu ((w.alloc (.cells #[.string g.nm, .int .i64 g.hd, .int .i64 g.tk, .int .i64 g.ex] 24)).alloc (.cells #[.pointer none, .slice none 0 0] 75)) (w.heap.size + 1) (w.heap.size + 1) [] ∧ Below (w.heap.size + 1) ((w.alloc (.cells #[.string g.nm, .int .i64 g.hd, .int .i64 g.tk, .int .i64 g.ex] 24)).alloc (.cells #[.pointer none, .slice none 0 0] 75)) ((w.alloc (.cells #[.string g.nm, .int .i64 g.hd, .int .i64 g.tk, .int .i64 g.ex] 24)).alloc (.cells #[.pointer none, .slice none 0 0] 75)) ∧ w.heap.size + 1 ≤ ((w.alloc (.cells #[.string g.nm, .int .i64 g.hd, .int .i64 g.tk, .int .i64 g.ex] 24)).alloc (.cells #[.pointer none, .slice none 0 0] 75)).heap.size) := by
    have e1 : (w.alloc (.cells #[.string g.nm, .int .i64 g.hd, .int .i64 g.tk, .int .i64 g.ex] 24)).heap.size = w.heap.size + 1 := by simp
    refine ⟨?_, Below.refl _ _, by simp⟩
    have := Bu.new (w.alloc (.cells #[.string g.nm, .int .i64 g.hd, .int .i64 g.tk, .int .i64 g.ex] 24))
    rwa [e1] at this
  have HT : Hid ((⟨(preL g ++ numL g 3).toArray⟩ : ByteArray) = tx g) := tx_num g
  clear hP hr
  unfold gV
  go_enter Tryd.func30, Tryd.ntmps30
  go_upto_region 2 with fail
  generalize (w.alloc (.cells #[.string g.nm, .int .i64 g.hd, .int .i64 g.tk, .int .i64 g.ex] 24)).alloc (.cells #[.pointer none, .slice none 0 0] 75) = wb at HX B0 ⊢
  go_wp2_with fail
  refine (write_any _ _ [] ⟨#[103, 114, 97, 110, 116]⟩ _ B0.out.1 (by decide) (by decide) B0.out.2.2).mono ?_
  rintro e w1 ⟨rfl, u1, b1⟩
  have B1 : Hid (Bu w1 (w.heap.size + 1) (w.heap.size + 1) wrd ∧ Below (w.heap.size + 1) wb w1 ∧ w.heap.size + 1 ≤ w1.heap.size) := ⟨u1, B0.out.2.1.trans b1, Nat.le_trans B0.out.2.2 b1.size⟩
  clear u1 b1
  go_wp2_with fail
  refine (write_any _ _ wrd ⟨#[32]⟩ _ B1.out.1 (by decide) (by decide) B1.out.2.2).mono ?_
  rintro e w2 ⟨rfl, u2, b2⟩
  have B2 : Hid (Bu w2 (w.heap.size + 1) (w.heap.size + 1) (wrd ++ [32]) ∧ Below (w.heap.size + 1) wb w2 ∧ w.heap.size + 1 ≤ w2.heap.size) := ⟨u2, B1.out.2.1.trans b2, Nat.le_trans B1.out.2.2 b2.size⟩
  clear u2 b2
  obtain ⟨⟨c0, c1, c2, c3⟩, _⟩ := HX.out _ B2.out.2.1
  go_wp2_with fail
  refine (write_any _ _ (wrd ++ [32]) g.nm _ B2.out.1 (by decide) (by omega) B2.out.2.2).mono ?_
  rintro e w3 ⟨rfl, u3, b3⟩
  have B3 : Hid (Bu w3 (w.heap.size + 1) (w.heap.size + 1) (preL g) ∧ Below (w.heap.size + 1) wb w3 ∧ w.heap.size + 1 ≤ w3.heap.size) := ⟨u3, B2.out.2.1.trans b3, Nat.le_trans B2.out.2.2 b3.size⟩
  clear u3 b3 c0 c1 c2 c3
  obtain ⟨⟨c0, c1, c2, c3⟩, _⟩ := HX.out _ B3.out.2.1
  go_wp2_with fail
  clear c0 c1 c2 c3
  go_loopw [18] (fun i wr => ∃ k : Nat, k ≤ 3 ∧ i = .int .i64 k ∧ Hid (Bu wr (w.heap.size + 1) (w.heap.size + 1) (preL g ++ numL g k) ∧ Below (w.heap.size + 1) wb wr ∧ w.heap.size + 1 ≤ wr.heap.size)) (fun i _ => 3 - (intOf i).toNat)
  case atStart => exact ⟨0, by omega, rfl, by show Bu _ _ _ _ ∧ _; rw [show numL g 0 = [] from rfl, List.append_nil]; exact B3.out⟩
  case round =>
    obtain ⟨k, hk, rfl, HZ⟩ := hrel
    by_cases hlt : k < 3
    · have hS : Hid (numL g (k + 1) = (numL g k ++ [32]) ++ itoa (nmAt g k)) := num_succ g k hlt
      have hL : Hid ((preL g ++ numL g k).length ≤ 1000 ∧ ((preL g ++ numL g k) ++ [32]).length ≤ 1000 ∧ (baL (itoa (nmAt g k))).size ≤ 1000000) := by
        refine ⟨?_, ?_, ?_⟩
        · rw [List.length_append]; have := HPL.out; have := HN.out k; omega
        · rw [List.length_append, List.length_append]; have := HPL.out; have := HN.out k; simp; omega
        · rw [baL_size]; have := HIL.out k hlt; omega
      have HIk : Hid (∀ W, PTab W → Calls Tryd.prog 55 #[.int .i64 (nmAt g k)] W fun e w' => e = .returned (.string (baL (itoa (nmAt g k)))) ∧ Below W.heap.size W w') := fun W hW => HI.out W k hlt hW
      have hix : ∀ W, (Instr.index 80 (.agg #[.int .i64 g.hd, .int .i64 g.tk, .int .i64 g.ex]) (.int .i64 (k : Int))).run Tryd.prog W = .ok (.int .i64 (nmAt g k)) W := fun W => index3 g k hlt W
      have h3 : (k : Int) < 3 := by omega
      have hA : Hid (preL g ++ numL g (k + 1) = ((preL g ++ numL g k) ++ [32]) ++ itoa (nmAt g k)) := by show _ = _; rw [hS.out]; simp
      have hPk : Hid (∀ W, Below (w.heap.size + 1) wb W → PTab W) := fun W hW => HP.out.below (HX.out W hW).2
      generalize nmAt g k = z at hL HIk hix hA
      generalize preL g ++ numL g k = l at HZ hL hA
      clear hS
      go_wp2_with fail
      refine (write_any _ _ l ⟨#[32]⟩ _ HZ.out.1 (by have := hL.out.1; omega) (by decide) HZ.out.2.2).mono ?_
      rintro e w4 ⟨rfl, u4, b4⟩
      have B4 : Hid (Bu w4 (w.heap.size + 1) (w.heap.size + 1) (l ++ [32]) ∧ Below (w.heap.size + 1) wb w4 ∧ w.heap.size + 1 ≤ w4.heap.size) := ⟨u4, HZ.out.2.1.trans b4, Nat.le_trans HZ.out.2.2 b4.size⟩
      clear u4 b4
      go_wp2_with fail
      refine (HIk.out _ (hPk.out _ B4.out.2.1)).mono ?_
      rintro e w5 ⟨rfl, b5⟩
      have B5 : Hid (Bu w5 (w.heap.size + 1) (w.heap.size + 1) (l ++ [32]) ∧ Below (w.heap.size + 1) wb w5 ∧ w.heap.size + 1 ≤ w5.heap.size) := ⟨B4.out.1.up b5, B4.out.2.1.trans (b5.mono B4.out.2.2), Nat.le_trans B4.out.2.2 b5.size⟩
      clear b5
      go_wp2_with fail
      refine (write_any _ _ (l ++ [32]) (baL (itoa z)) _ B5.out.1 (by have := hL.out.2.1; omega) hL.out.2.2 B5.out.2.2).mono ?_
      rintro e w6 ⟨rfl, u6, b6⟩
      have B6 : Hid (Bu w6 (w.heap.size + 1) (w.heap.size + 1) (preL g ++ numL g (k + 1)) ∧ Below (w.heap.size + 1) wb w6 ∧ w.heap.size + 1 ≤ w6.heap.size) := ⟨by rw [hA.out]; exact u6, B5.out.2.1.trans b6, Nat.le_trans B5.out.2.2 b6.size⟩
      clear u6 b6
      go_wp2_with fail
      exact ⟨⟨k + 1, by omega, by go_num, B6⟩, by simp [intOf]; omega⟩
    · obtain rfl : k = 3 := by omega
      go_wp2_with fail
      refine (string_any _ _ _ _ HZ.out.1 HZ.out.2.2).mono ?_
      rintro e w5 ⟨rfl, b5⟩
      have G : Hid (Below w.heap.size w w5) := (HX.out _ (HZ.out.2.1.trans b5)).2
      clear b5
      go_wp2_with fail
      go_ret
      exact ⟨ret_str HT.out, G.out⟩
set_option maxRecDepth 100000 in
set_option maxHeartbeats 1600000 in
theorem implGrantText_any (g : Gg) (w : World) (hs : g.nm.size ≤ maxLen) (hP : PTab w) :
    Calls Tryd.prog 10 #[gV g] w fun e w' => e = .returned (.tuple #[.string (gtS g), .int .i64 (gtC g)]) ∧ Below w.heap.size w w' := by
  have HX : Hid (∀ W, Below (w.alloc (.cells #[.string g.nm, .int .i64 g.hd, .int .i64 g.tk, .int .i64 g.ex] 24)).heap.size (w.alloc (.cells #[.string g.nm, .int .i64 g.hd, .int .i64 g.tk, .int .i64 g.ex] 24)) W → (W.cell? ⟨w.heap.size, 0, none⟩ = some (.string g.nm) ∧ W.cell? ⟨w.heap.size, 1, none⟩ = some (.int .i64 g.hd) ∧ W.cell? ⟨w.heap.size, 2, none⟩ = some (.int .i64 g.tk) ∧ W.cell? ⟨w.heap.size, 3, none⟩ = some (.int .i64 g.ex)) ∧ Below w.heap.size w W) := fun W hW => by
    have h1 := (hW.block w.heap.size (by simp)).trans (heap_alloc_new w _)
    exact ⟨⟨by simp [World.cell?, h1], by simp [World.cell?, h1], by simp [World.cell?, h1], by simp [World.cell?, h1]⟩, (bel1 w _).trans (hW.mono (by simp))⟩
  have HO : Hid (∀ W, Calls Tryd.prog 13 #[.agg #[.string g.nm, .int .i64 g.hd, .int .i64 g.tk, .int .i64 g.ex]] W fun e w' => e = .returned (.bool (grB g)) ∧ Below W.heap.size W w') := fun W => implGrantOK_any g W hs
  have HP : Hid (PTab w) := hP
  clear hs hP
  unfold gV
  cases h : grB g with
  | false =>
    have HE : Hid (gtS g = ⟨#[]⟩ ∧ gtC g = 1) := by show _ ∧ _; unfold gtS gtC; rw [h]; exact ⟨rfl, rfl⟩
    rw [h] at HO
    clear h
    go_enter Tryd.func10, Tryd.ntmps10
    go_upto_region 1 with fail
    generalize w.alloc (.cells #[.string g.nm, .int .i64 g.hd, .int .i64 g.tk, .int .i64 g.ex] 24) = wb at HX ⊢
    obtain ⟨⟨c0, c1, c2, c3⟩, _⟩ := HX.out wb (Below.refl _ _)
    go_wp2_with fail
    refine (HO.out _).mono ?_
    rintro e w1 ⟨rfl, b1⟩
    have G : Hid (Below w.heap.size w w1) := (HX.out _ b1).2
    clear b1
    go_wp2_with fail
    go_ret2
    exact ⟨ret_si ⟨HE.out.1.symm, HE.out.2.symm⟩, G.out⟩
  | true =>
    have HE : Hid (gtS g = tx g ∧ gtC g = 0) := by show _ ∧ _; unfold gtS gtC; rw [h]; exact ⟨rfl, rfl⟩
    have HTX := (show Hid (∀ W, Below w.heap.size w W → Calls Tryd.prog 30 #[.agg #[.string g.nm, .int .i64 g.hd, .int .i64 g.tk, .int .i64 g.ex]] W fun e w' => e = .returned (.string (tx g)) ∧ Below W.heap.size W w') from fun W hW => writtenGrant_any g W (nmd_of (grB_parts h).1).2 (grB_ok g h).2 (HP.out.below hW))
    rw [h] at HO
    clear h
    go_enter Tryd.func10, Tryd.ntmps10
    go_upto_region 1 with fail
    generalize w.alloc (.cells #[.string g.nm, .int .i64 g.hd, .int .i64 g.tk, .int .i64 g.ex] 24) = wb at HX ⊢
    obtain ⟨⟨c0, c1, c2, c3⟩, _⟩ := HX.out wb (Below.refl _ _)
    go_wp2_with fail
    refine (HO.out _).mono ?_
    rintro e w1 ⟨rfl, b1⟩
    have B1 : Hid (Below wb.heap.size wb w1) := b1
    clear b1 c0 c1 c2 c3
    obtain ⟨⟨c0, c1, c2, c3⟩, _⟩ := HX.out w1 B1.out
    go_wp2_with fail
    refine (HTX.out _ (HX.out _ B1.out).2).mono ?_
    rintro e w2 ⟨rfl, b2⟩
    have G : Hid (Below w.heap.size w w2) := (HX.out _ (B1.out.trans (b2.mono B1.out.size))).2
    clear b2
    go_wp2_with fail
    go_ret2
    exact ⟨ret_si ⟨HE.out.1.symm, HE.out.2.symm⟩, G.out⟩
end Go.Proofs.YtimmeclclilpdaaDoor.Gr12
