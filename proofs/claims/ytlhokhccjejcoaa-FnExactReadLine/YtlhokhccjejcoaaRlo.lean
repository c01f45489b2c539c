/- What a sentence asks for, of the program. -/
import Derived.Test.YtlhokhccjejcoaaRln
import Derived.Test.YtlhokhccjejcoaaMpl
namespace Go.Proofs.Ytlhokhccjejcoaa.Rl16
open Go.RowKit Go.Lib Go.Proofs.Ytlhokhccjejcoaa.Ap Go.Proofs.Ytlhokhccjejcoaa.Tx
open Go.Proofs.Ytlhokhccjejcoaa.Gr12 (nV nB l00Number_any numberIn_any)
open Go.Proofs.Ytlhokhccjejcoaa.Stw
open Go.Proofs.Ytlhokhccjejcoaa.Rq (inB)
open Go.Proofs.Ytlhokhccjejcoaa.Mpl
def waM : ByteArray := ⟨#[116, 105, 109, 101]⟩
theorem rl_ca {a : ByteArray} {k : Int} (h : opOf a = k) (hk : k ≠ 0) (ht : a ≠ waT) : ∀ r : List ByteArray, rlA (a :: r) = caA k (a :: r)
  | [] => rfl
  | [b] => by simp [rlA, caA, ht]
  | [b, c] => by simp [rlA, caA, h, hk]
  | [b, c, d] => by simp [rlA, caA, h, hk]
  | _ :: _ :: _ :: _ :: _ => rfl
theorem rl_ti : ∀ r : List ByteArray, rlA (waT :: r) = tiA (waT :: r)
  | [] => rfl
  | [b] => by simp [rlA, tiA]
  | [b, c] => by simp [rlA, tiA, show opOf waT = 0 by decide]
  | [b, c, d] => by simp [rlA, tiA, show opOf waT = 0 by decide]
  | _ :: _ :: _ :: _ :: _ => rfl
theorem rl_no {a : ByteArray} (h : opOf a = 0) (ht : a ≠ waT) : ∀ r : List ByteArray, rlA (a :: r) = none
  | [] => rfl
  | [b] => by simp [rlA, ht]
  | [b, c] => by simp [rlA, h]
  | [b, c, d] => by simp [rlA, h]
  | _ :: _ :: _ :: _ :: _ => rfl
theorem op_no {a : ByteArray} (h1 : a ≠ wa1) (h2 : a ≠ wa2) (h3 : a ≠ wa3) (h4 : a ≠ wa4) : opOf a = 0 := by
  unfold opOf
  rw [if_neg h1, if_neg h2, if_neg h3, if_neg h4]
theorem laid (w : World) : ∃ W1 W2 W3 W4 W5 W6,
    (Instr.mapUpdate 52 (.map (some w.heap.size)) (.string ⟨#[97, 99, 113, 117, 105, 114, 101]⟩) (.func (.func 20) #[] #[])).run Try.prog (w.alloc (.map #[] 0)) = .ok () W1 ∧
    (Instr.mapUpdate 52 (.map (some w.heap.size)) (.string ⟨#[114, 101, 108, 101, 97, 115, 101]⟩) (.func (.func 21) #[] #[])).run Try.prog W1 = .ok () W2 ∧
    (Instr.mapUpdate 52 (.map (some w.heap.size)) (.string ⟨#[114, 101, 110, 101, 119]⟩) (.func (.func 22) #[] #[])).run Try.prog W2 = .ok () W3 ∧
    (Instr.mapUpdate 52 (.map (some w.heap.size)) (.string ⟨#[113, 117, 101, 114, 121]⟩) (.func (.func 23) #[] #[])).run Try.prog W3 = .ok () W4 ∧
    (Instr.mapUpdate 52 (.map (some w.heap.size)) (.string ⟨#[116, 105, 109, 101, 111, 117, 116]⟩) (.func (.func 24) #[] #[])).run Try.prog W4 = .ok () W5 ∧
    (Instr.mapUpdate 52 (.map (some w.heap.size)) (.string ⟨#[116, 105, 109, 101]⟩) (.func (.func 25) #[] #[])).run Try.prog W5 = .ok () W6 ∧
    W6.heap[w.heap.size]? = some (.map #[⟨.string ⟨#[97, 99, 113, 117, 105, 114, 101]⟩, .func (.func 20) #[] #[], 0⟩, ⟨.string ⟨#[114, 101, 108, 101, 97, 115, 101]⟩, .func (.func 21) #[] #[], 1⟩, ⟨.string ⟨#[114, 101, 110, 101, 119]⟩, .func (.func 22) #[] #[], 2⟩, ⟨.string ⟨#[113, 117, 101, 114, 121]⟩, .func (.func 23) #[] #[], 3⟩, ⟨.string ⟨#[116, 105, 109, 101, 111, 117, 116]⟩, .func (.func 24) #[] #[], 4⟩, ⟨.string ⟨#[116, 105, 109, 101]⟩, .func (.func 25) #[] #[], 5⟩] 6) ∧ Below w.heap.size w W6 := by
  have h0 : (w.alloc (.map #[] 0)).heap[w.heap.size]? = some (.map #[] 0) := (MapKept.heap_alloc w _).1
  have g0 : Below w.heap.size w (w.alloc (.map #[] 0)) := bel_new _ _
  obtain ⟨W1, e1, h1, g1⟩ := mup (P := Try.prog) (mt := 52) (kt := 9) (e := 51) ⟨#[97, 99, 113, 117, 105, 114, 101]⟩ (.func (.func 20) #[] #[]) (by kernel_rfl) (by kernel_rfl) h0 (by rfl)
  replace g1 := g1 g0 (Nat.le_refl _)
  obtain ⟨W2, e2, h2, g2⟩ := mup (P := Try.prog) (mt := 52) (kt := 9) (e := 51) ⟨#[114, 101, 108, 101, 97, 115, 101]⟩ (.func (.func 21) #[] #[]) (by kernel_rfl) (by kernel_rfl) h1 (by rfl)
  replace g2 := g2 g1 (Nat.le_refl _)
  obtain ⟨W3, e3, h3, g3⟩ := mup (P := Try.prog) (mt := 52) (kt := 9) (e := 51) ⟨#[114, 101, 110, 101, 119]⟩ (.func (.func 22) #[] #[]) (by kernel_rfl) (by kernel_rfl) h2 (by rfl)
  replace g3 := g3 g2 (Nat.le_refl _)
  obtain ⟨W4, e4, h4, g4⟩ := mup (P := Try.prog) (mt := 52) (kt := 9) (e := 51) ⟨#[113, 117, 101, 114, 121]⟩ (.func (.func 23) #[] #[]) (by kernel_rfl) (by kernel_rfl) h3 (by rfl)
  replace g4 := g4 g3 (Nat.le_refl _)
  obtain ⟨W5, e5, h5, g5⟩ := mup (P := Try.prog) (mt := 52) (kt := 9) (e := 51) ⟨#[116, 105, 109, 101, 111, 117, 116]⟩ (.func (.func 24) #[] #[]) (by kernel_rfl) (by kernel_rfl) h4 (by rfl)
  replace g5 := g5 g4 (Nat.le_refl _)
  obtain ⟨W6, e6, h6, g6⟩ := mup (P := Try.prog) (mt := 52) (kt := 9) (e := 51) ⟨#[116, 105, 109, 101]⟩ (.func (.func 25) #[] #[]) (by kernel_rfl) (by kernel_rfl) h5 (by rfl)
  replace g6 := g6 g5 (Nat.le_refl _)
  exact ⟨W1, W2, W3, W4, W5, W6, e1, e2, e3, e4, e5, e6, h6, g6⟩
set_option maxRecDepth 100000 in
set_option maxHeartbeats 3200000 in
theorem order_any (v : Value) (ts : List ByteArray) (w : World) (h : RowT w v ts) (hz : ∀ s ∈ ts, s.size ≤ 70000) : Calls Try.prog 12 #[v] w fun e w' => IfP (rlA ts) e ∧ Below w.heap.size w w' := by
  obtain ⟨xa, xc, rfl⟩ : ∃ xa xc, v = .slice xa ts.length xc := ⟨_, _, h.choose_spec.choose_spec.1⟩
  have e0 := made (P := Try.prog) (w := w) 52
  obtain ⟨W1, W2, W3, W4, W5, W6, e1, e2, e3, e4, e5, e6, h6, g6⟩ := laid w
  have H6 : Hid (W6.heap[w.heap.size]? = some (.map #[⟨.string ⟨#[97, 99, 113, 117, 105, 114, 101]⟩, .func (.func 20) #[] #[], 0⟩, ⟨.string ⟨#[114, 101, 108, 101, 97, 115, 101]⟩, .func (.func 21) #[] #[], 1⟩, ⟨.string ⟨#[114, 101, 110, 101, 119]⟩, .func (.func 22) #[] #[], 2⟩, ⟨.string ⟨#[113, 117, 101, 114, 121]⟩, .func (.func 23) #[] #[], 3⟩, ⟨.string ⟨#[116, 105, 109, 101, 111, 117, 116]⟩, .func (.func 24) #[] #[], 4⟩, ⟨.string ⟨#[116, 105, 109, 101]⟩, .func (.func 25) #[] #[], 5⟩] 6) ∧ Below w.heap.size w W6) := ⟨h6, g6⟩
  clear h6 g6
  by_cases hne : ts = []
  · have HM := must_no xa ts.length xc 1 ts.length W6 (by rw [hne]; rfl)
    have HO : Hid (rlA ts = none) := by rw [hne]; rfl
    clear h hz hne
    go_enter Try.func12, Try.ntmps12
    go_wp2_with fail
    refine HM.mono ?_
    rintro e w1 ⟨⟨pv, rfl, hbd⟩, b1⟩
    go_wp2_with fail
    exact ⟨rfl, .inr ⟨HO.out, .inl ⟨pv, rfl, hbd⟩⟩, H6.out.2.trans (b1.mono H6.out.2.size)⟩
  obtain ⟨a, r, hts⟩ := List.exists_cons_of_ne_nil hne
  obtain ⟨k, o, cp, hxe, hc, hcell⟩ := row_at h hne
  have hxa : xa = some ⟨k, o, none⟩ := by injection hxe
  subst hxa
  have HC : Hid (∀ W, Below w.heap.size w W → W.cell? ⟨k, o, none⟩ = some (.string a)) := fun W hW => by
    have h1 := hcell 0 a (by rw [hts]; rfl)
    exact (hW.cell (p := ⟨k, o, none⟩) (World.block_lt_of_cell? w ⟨k, o, none⟩ h1)).trans h1
  have HR : Hid (∀ W, Below w.heap.size w W → RowT W (.slice (some ⟨k, o, none⟩) ts.length xc) ts) := fun W hW => h.below hW
  have HZ : Hid (∀ s ∈ ts, s.size ≤ 70000) := hz
  have HM := must_yes (some ⟨k, o, none⟩) ts.length xc 1 ts.length W6 (by rw [hts]; unfold inB; rw [decide_eq_true_eq]; simp only [List.length_cons]; omega)
  have hlen : (0 : Int) < (ts.length : Int) := by rw [hts, List.length_cons]; omega
  have HT : Hid (ts = a :: r) := hts
  clear h hz hne hts hxe hc hcell
  by_cases ha : a = wa1
  · have HA : Hid (a = wa1) := ha
    have HO : Hid (rlA ts = caA 1 ts) := by rw [HT.out]; exact rl_ca (by rw [ha]; decide) (by decide) (by rw [ha]; decide) r
    clear ha
    go_enter Try.func12, Try.ntmps12
    go_wp2_with fail
    refine HM.mono ?_
    rintro e w1 ⟨rfl, b1⟩
    have B1 : Hid (Below w.heap.size w w1) := H6.out.2.trans (b1.mono H6.out.2.size)
    have h7 : w1.heap[w.heap.size]? = some (.map #[⟨.string ⟨#[97, 99, 113, 117, 105, 114, 101]⟩, .func (.func 20) #[] #[], 0⟩, ⟨.string ⟨#[114, 101, 108, 101, 97, 115, 101]⟩, .func (.func 21) #[] #[], 1⟩, ⟨.string ⟨#[114, 101, 110, 101, 119]⟩, .func (.func 22) #[] #[], 2⟩, ⟨.string ⟨#[113, 117, 101, 114, 121]⟩, .func (.func 23) #[] #[], 3⟩, ⟨.string ⟨#[116, 105, 109, 101, 111, 117, 116]⟩, .func (.func 24) #[] #[], 4⟩, ⟨.string ⟨#[116, 105, 109, 101]⟩, .func (.func 25) #[] #[], 5⟩] 6) := (b1.block _ (Array.getElem?_eq_some_iff.1 H6.out.1).1).trans H6.out.1
    have c0 := HC.out w1 B1.out
    have el := mlk_some (P := Try.prog) (i := 0) (v := .func (.func 20) #[] #[]) (a := a) (by kernel_rfl : Try.prog.underlying 52 = some (.map 9 51)) (by kernel_rfl : Try.prog.underlying 9 = some .string) h7 (by rw [HA.out]; rfl)
    clear h7 b1 e0 e1 e2 e3 e4 e5 e6 HM
    have HK := acquire_any (.slice (some ⟨k, o, none⟩) ts.length xc) ts w1 (HR.out w1 B1.out) HZ.out
    go_wp2_with fail
    refine HK.mono ?_
    rintro e w2 ⟨he, b2⟩
    rcases he with ⟨kd, cl, op, le, nm, gk, gn, hS, rfl⟩ | ⟨hN, ⟨pv, rfl, hbd⟩ | ⟨q, rfl⟩⟩
    · have HS : Hid (caA 1 ts = some (waC kd cl op le nm gk gn)) := hS
      clear hS HK
      go_wp2_with fail
      go_ret
      exact ⟨.inl ⟨kd, cl, op, le, nm, gk, gn, HO.out.trans HS.out, rfl⟩, B1.out.trans (b2.mono B1.out.size)⟩
    · have HN : Hid (caA 1 ts = none) := hN
      clear hN HK
      go_wp2_with fail
      exact ⟨rfl, .inr ⟨HO.out.trans HN.out, .inl ⟨pv, rfl, hbd⟩⟩, B1.out.trans (b2.mono B1.out.size)⟩
    · have HN : Hid (caA 1 ts = none) := hN
      clear hN HK
      go_wp2_with fail
      go_ret
      exact ⟨.inr ⟨HO.out.trans HN.out, .inr ⟨q, rfl⟩⟩, B1.out.trans (b2.mono B1.out.size)⟩
  have n0 : Hid (a ≠ wa1) := ha
  clear ha
  by_cases ha : a = wa2
  · have HA : Hid (a = wa2) := ha
    have HO : Hid (rlA ts = caA 2 ts) := by rw [HT.out]; exact rl_ca (by rw [ha]; decide) (by decide) (by rw [ha]; decide) r
    clear ha
    go_enter Try.func12, Try.ntmps12
    go_wp2_with fail
    refine HM.mono ?_
    rintro e w1 ⟨rfl, b1⟩
    have B1 : Hid (Below w.heap.size w w1) := H6.out.2.trans (b1.mono H6.out.2.size)
    have h7 : w1.heap[w.heap.size]? = some (.map #[⟨.string ⟨#[97, 99, 113, 117, 105, 114, 101]⟩, .func (.func 20) #[] #[], 0⟩, ⟨.string ⟨#[114, 101, 108, 101, 97, 115, 101]⟩, .func (.func 21) #[] #[], 1⟩, ⟨.string ⟨#[114, 101, 110, 101, 119]⟩, .func (.func 22) #[] #[], 2⟩, ⟨.string ⟨#[113, 117, 101, 114, 121]⟩, .func (.func 23) #[] #[], 3⟩, ⟨.string ⟨#[116, 105, 109, 101, 111, 117, 116]⟩, .func (.func 24) #[] #[], 4⟩, ⟨.string ⟨#[116, 105, 109, 101]⟩, .func (.func 25) #[] #[], 5⟩] 6) := (b1.block _ (Array.getElem?_eq_some_iff.1 H6.out.1).1).trans H6.out.1
    have c0 := HC.out w1 B1.out
    have el := mlk_some (P := Try.prog) (i := 1) (v := .func (.func 21) #[] #[]) (a := a) (by kernel_rfl : Try.prog.underlying 52 = some (.map 9 51)) (by kernel_rfl : Try.prog.underlying 9 = some .string) h7 (by rw [HA.out]; rfl)
    clear h7 b1 e0 e1 e2 e3 e4 e5 e6 HM
    have HK := release_any (.slice (some ⟨k, o, none⟩) ts.length xc) ts w1 (HR.out w1 B1.out) HZ.out
    go_wp2_with fail
    refine HK.mono ?_
    rintro e w2 ⟨he, b2⟩
    rcases he with ⟨kd, cl, op, le, nm, gk, gn, hS, rfl⟩ | ⟨hN, ⟨pv, rfl, hbd⟩ | ⟨q, rfl⟩⟩
    · have HS : Hid (caA 2 ts = some (waC kd cl op le nm gk gn)) := hS
      clear hS HK
      go_wp2_with fail
      go_ret
      exact ⟨.inl ⟨kd, cl, op, le, nm, gk, gn, HO.out.trans HS.out, rfl⟩, B1.out.trans (b2.mono B1.out.size)⟩
    · have HN : Hid (caA 2 ts = none) := hN
      clear hN HK
      go_wp2_with fail
      exact ⟨rfl, .inr ⟨HO.out.trans HN.out, .inl ⟨pv, rfl, hbd⟩⟩, B1.out.trans (b2.mono B1.out.size)⟩
    · have HN : Hid (caA 2 ts = none) := hN
      clear hN HK
      go_wp2_with fail
      go_ret
      exact ⟨.inr ⟨HO.out.trans HN.out, .inr ⟨q, rfl⟩⟩, B1.out.trans (b2.mono B1.out.size)⟩
  have n1 : Hid (a ≠ wa2) := ha
  clear ha
  by_cases ha : a = wa3
  · have HA : Hid (a = wa3) := ha
    have HO : Hid (rlA ts = caA 3 ts) := by rw [HT.out]; exact rl_ca (by rw [ha]; decide) (by decide) (by rw [ha]; decide) r
    clear ha
    go_enter Try.func12, Try.ntmps12
    go_wp2_with fail
    refine HM.mono ?_
    rintro e w1 ⟨rfl, b1⟩
    have B1 : Hid (Below w.heap.size w w1) := H6.out.2.trans (b1.mono H6.out.2.size)
    have h7 : w1.heap[w.heap.size]? = some (.map #[⟨.string ⟨#[97, 99, 113, 117, 105, 114, 101]⟩, .func (.func 20) #[] #[], 0⟩, ⟨.string ⟨#[114, 101, 108, 101, 97, 115, 101]⟩, .func (.func 21) #[] #[], 1⟩, ⟨.string ⟨#[114, 101, 110, 101, 119]⟩, .func (.func 22) #[] #[], 2⟩, ⟨.string ⟨#[113, 117, 101, 114, 121]⟩, .func (.func 23) #[] #[], 3⟩, ⟨.string ⟨#[116, 105, 109, 101, 111, 117, 116]⟩, .func (.func 24) #[] #[], 4⟩, ⟨.string ⟨#[116, 105, 109, 101]⟩, .func (.func 25) #[] #[], 5⟩] 6) := (b1.block _ (Array.getElem?_eq_some_iff.1 H6.out.1).1).trans H6.out.1
    have c0 := HC.out w1 B1.out
    have el := mlk_some (P := Try.prog) (i := 2) (v := .func (.func 22) #[] #[]) (a := a) (by kernel_rfl : Try.prog.underlying 52 = some (.map 9 51)) (by kernel_rfl : Try.prog.underlying 9 = some .string) h7 (by rw [HA.out]; rfl)
    clear h7 b1 e0 e1 e2 e3 e4 e5 e6 HM
    have HK := renew_any (.slice (some ⟨k, o, none⟩) ts.length xc) ts w1 (HR.out w1 B1.out) HZ.out
    go_wp2_with fail
    refine HK.mono ?_
    rintro e w2 ⟨he, b2⟩
    rcases he with ⟨kd, cl, op, le, nm, gk, gn, hS, rfl⟩ | ⟨hN, ⟨pv, rfl, hbd⟩ | ⟨q, rfl⟩⟩
    · have HS : Hid (caA 3 ts = some (waC kd cl op le nm gk gn)) := hS
      clear hS HK
      go_wp2_with fail
      go_ret
      exact ⟨.inl ⟨kd, cl, op, le, nm, gk, gn, HO.out.trans HS.out, rfl⟩, B1.out.trans (b2.mono B1.out.size)⟩
    · have HN : Hid (caA 3 ts = none) := hN
      clear hN HK
      go_wp2_with fail
      exact ⟨rfl, .inr ⟨HO.out.trans HN.out, .inl ⟨pv, rfl, hbd⟩⟩, B1.out.trans (b2.mono B1.out.size)⟩
    · have HN : Hid (caA 3 ts = none) := hN
      clear hN HK
      go_wp2_with fail
      go_ret
      exact ⟨.inr ⟨HO.out.trans HN.out, .inr ⟨q, rfl⟩⟩, B1.out.trans (b2.mono B1.out.size)⟩
  have n2 : Hid (a ≠ wa3) := ha
  clear ha
  by_cases ha : a = wa4
  · have HA : Hid (a = wa4) := ha
    have HO : Hid (rlA ts = caA 4 ts) := by rw [HT.out]; exact rl_ca (by rw [ha]; decide) (by decide) (by rw [ha]; decide) r
    clear ha
    go_enter Try.func12, Try.ntmps12
    go_wp2_with fail
    refine HM.mono ?_
    rintro e w1 ⟨rfl, b1⟩
    have B1 : Hid (Below w.heap.size w w1) := H6.out.2.trans (b1.mono H6.out.2.size)
    have h7 : w1.heap[w.heap.size]? = some (.map #[⟨.string ⟨#[97, 99, 113, 117, 105, 114, 101]⟩, .func (.func 20) #[] #[], 0⟩, ⟨.string ⟨#[114, 101, 108, 101, 97, 115, 101]⟩, .func (.func 21) #[] #[], 1⟩, ⟨.string ⟨#[114, 101, 110, 101, 119]⟩, .func (.func 22) #[] #[], 2⟩, ⟨.string ⟨#[113, 117, 101, 114, 121]⟩, .func (.func 23) #[] #[], 3⟩, ⟨.string ⟨#[116, 105, 109, 101, 111, 117, 116]⟩, .func (.func 24) #[] #[], 4⟩, ⟨.string ⟨#[116, 105, 109, 101]⟩, .func (.func 25) #[] #[], 5⟩] 6) := (b1.block _ (Array.getElem?_eq_some_iff.1 H6.out.1).1).trans H6.out.1
    have c0 := HC.out w1 B1.out
    have el := mlk_some (P := Try.prog) (i := 3) (v := .func (.func 23) #[] #[]) (a := a) (by kernel_rfl : Try.prog.underlying 52 = some (.map 9 51)) (by kernel_rfl : Try.prog.underlying 9 = some .string) h7 (by rw [HA.out]; rfl)
    clear h7 b1 e0 e1 e2 e3 e4 e5 e6 HM
    have HK := query_any (.slice (some ⟨k, o, none⟩) ts.length xc) ts w1 (HR.out w1 B1.out) HZ.out
    go_wp2_with fail
    refine HK.mono ?_
    rintro e w2 ⟨he, b2⟩
    rcases he with ⟨kd, cl, op, le, nm, gk, gn, hS, rfl⟩ | ⟨hN, ⟨pv, rfl, hbd⟩ | ⟨q, rfl⟩⟩
    · have HS : Hid (caA 4 ts = some (waC kd cl op le nm gk gn)) := hS
      clear hS HK
      go_wp2_with fail
      go_ret
      exact ⟨.inl ⟨kd, cl, op, le, nm, gk, gn, HO.out.trans HS.out, rfl⟩, B1.out.trans (b2.mono B1.out.size)⟩
    · have HN : Hid (caA 4 ts = none) := hN
      clear hN HK
      go_wp2_with fail
      exact ⟨rfl, .inr ⟨HO.out.trans HN.out, .inl ⟨pv, rfl, hbd⟩⟩, B1.out.trans (b2.mono B1.out.size)⟩
    · have HN : Hid (caA 4 ts = none) := hN
      clear hN HK
      go_wp2_with fail
      go_ret
      exact ⟨.inr ⟨HO.out.trans HN.out, .inr ⟨q, rfl⟩⟩, B1.out.trans (b2.mono B1.out.size)⟩
  have n3 : Hid (a ≠ wa4) := ha
  clear ha
  by_cases ha : a = waT
  · have HA : Hid (a = waT) := ha
    have HO : Hid (rlA ts = tiA ts) := by rw [HT.out, ha]; exact rl_ti r
    clear ha
    go_enter Try.func12, Try.ntmps12
    go_wp2_with fail
    refine HM.mono ?_
    rintro e w1 ⟨rfl, b1⟩
    have B1 : Hid (Below w.heap.size w w1) := H6.out.2.trans (b1.mono H6.out.2.size)
    have h7 : w1.heap[w.heap.size]? = some (.map #[⟨.string ⟨#[97, 99, 113, 117, 105, 114, 101]⟩, .func (.func 20) #[] #[], 0⟩, ⟨.string ⟨#[114, 101, 108, 101, 97, 115, 101]⟩, .func (.func 21) #[] #[], 1⟩, ⟨.string ⟨#[114, 101, 110, 101, 119]⟩, .func (.func 22) #[] #[], 2⟩, ⟨.string ⟨#[113, 117, 101, 114, 121]⟩, .func (.func 23) #[] #[], 3⟩, ⟨.string ⟨#[116, 105, 109, 101, 111, 117, 116]⟩, .func (.func 24) #[] #[], 4⟩, ⟨.string ⟨#[116, 105, 109, 101]⟩, .func (.func 25) #[] #[], 5⟩] 6) := (b1.block _ (Array.getElem?_eq_some_iff.1 H6.out.1).1).trans H6.out.1
    have c0 := HC.out w1 B1.out
    have el := mlk_some (P := Try.prog) (i := 4) (v := .func (.func 24) #[] #[]) (a := a) (by kernel_rfl : Try.prog.underlying 52 = some (.map 9 51)) (by kernel_rfl : Try.prog.underlying 9 = some .string) h7 (by rw [HA.out]; rfl)
    clear h7 b1 e0 e1 e2 e3 e4 e5 e6 HM
    have HK := timeout_any (.slice (some ⟨k, o, none⟩) ts.length xc) ts w1 (HR.out w1 B1.out) HZ.out
    go_wp2_with fail
    refine HK.mono ?_
    rintro e w2 ⟨he, b2⟩
    rcases he with ⟨kd, cl, op, le, nm, gk, gn, hS, rfl⟩ | ⟨hN, ⟨pv, rfl, hbd⟩ | ⟨q, rfl⟩⟩
    · have HS : Hid (tiA ts = some (waC kd cl op le nm gk gn)) := hS
      clear hS HK
      go_wp2_with fail
      go_ret
      exact ⟨.inl ⟨kd, cl, op, le, nm, gk, gn, HO.out.trans HS.out, rfl⟩, B1.out.trans (b2.mono B1.out.size)⟩
    · have HN : Hid (tiA ts = none) := hN
      clear hN HK
      go_wp2_with fail
      exact ⟨rfl, .inr ⟨HO.out.trans HN.out, .inl ⟨pv, rfl, hbd⟩⟩, B1.out.trans (b2.mono B1.out.size)⟩
    · have HN : Hid (tiA ts = none) := hN
      clear hN HK
      go_wp2_with fail
      go_ret
      exact ⟨.inr ⟨HO.out.trans HN.out, .inr ⟨q, rfl⟩⟩, B1.out.trans (b2.mono B1.out.size)⟩
  have n4 : Hid (a ≠ waT) := ha
  clear ha
  by_cases ha : a = waM
  · have HA : Hid (a = waM) := ha
    have HO : Hid (rlA ts = none) := by rw [HT.out]; exact rl_no (by rw [ha]; decide) (by rw [ha]; decide) r
    clear ha
    go_enter Try.func12, Try.ntmps12
    go_wp2_with fail
    refine HM.mono ?_
    rintro e w1 ⟨rfl, b1⟩
    have B1 : Hid (Below w.heap.size w w1) := H6.out.2.trans (b1.mono H6.out.2.size)
    have h7 : w1.heap[w.heap.size]? = some (.map #[⟨.string ⟨#[97, 99, 113, 117, 105, 114, 101]⟩, .func (.func 20) #[] #[], 0⟩, ⟨.string ⟨#[114, 101, 108, 101, 97, 115, 101]⟩, .func (.func 21) #[] #[], 1⟩, ⟨.string ⟨#[114, 101, 110, 101, 119]⟩, .func (.func 22) #[] #[], 2⟩, ⟨.string ⟨#[113, 117, 101, 114, 121]⟩, .func (.func 23) #[] #[], 3⟩, ⟨.string ⟨#[116, 105, 109, 101, 111, 117, 116]⟩, .func (.func 24) #[] #[], 4⟩, ⟨.string ⟨#[116, 105, 109, 101]⟩, .func (.func 25) #[] #[], 5⟩] 6) := (b1.block _ (Array.getElem?_eq_some_iff.1 H6.out.1).1).trans H6.out.1
    have c0 := HC.out w1 B1.out
    have el := mlk_some (P := Try.prog) (i := 5) (v := .func (.func 25) #[] #[]) (a := a) (by kernel_rfl : Try.prog.underlying 52 = some (.map 9 51)) (by kernel_rfl : Try.prog.underlying 9 = some .string) h7 (by rw [HA.out]; rfl)
    clear h7 b1 e0 e1 e2 e3 e4 e5 e6 HM
    have HK := time_any (.slice (some ⟨k, o, none⟩) ts.length xc) ts w1 (HR.out w1 B1.out) HZ.out
    go_wp2_with fail
    refine HK.mono ?_
    rintro e w2 ⟨he, b2⟩
    rcases he with ⟨kd, cl, op, le, nm, gk, gn, hS, rfl⟩ | ⟨hN, ⟨pv, rfl, hbd⟩ | ⟨q, rfl⟩⟩
    · have HS : Hid ((none : Option (Array Value)) = some (waC kd cl op le nm gk gn)) := hS
      clear hS HK
      go_wp2_with fail
      go_ret
      exact ⟨.inl ⟨kd, cl, op, le, nm, gk, gn, HO.out.trans HS.out, rfl⟩, B1.out.trans (b2.mono B1.out.size)⟩
    · have HN : Hid ((none : Option (Array Value)) = none) := hN
      clear hN HK
      go_wp2_with fail
      exact ⟨rfl, .inr ⟨HO.out, .inl ⟨pv, rfl, hbd⟩⟩, B1.out.trans (b2.mono B1.out.size)⟩
    · have HN : Hid ((none : Option (Array Value)) = none) := hN
      clear hN HK
      go_wp2_with fail
      go_ret
      exact ⟨.inr ⟨HO.out, .inr ⟨q, rfl⟩⟩, B1.out.trans (b2.mono B1.out.size)⟩
  have n5 : Hid (a ≠ waM) := ha
  clear ha
  have HO : Hid (rlA ts = none) := by rw [HT.out]; exact rl_no (op_no n0.out n1.out n2.out n3.out) n4.out r
  go_enter Try.func12, Try.ntmps12
  go_wp2_with fail
  refine HM.mono ?_
  rintro e w1 ⟨rfl, b1⟩
  have B1 : Hid (Below w.heap.size w w1) := H6.out.2.trans (b1.mono H6.out.2.size)
  have h7 : w1.heap[w.heap.size]? = some (.map #[⟨.string ⟨#[97, 99, 113, 117, 105, 114, 101]⟩, .func (.func 20) #[] #[], 0⟩, ⟨.string ⟨#[114, 101, 108, 101, 97, 115, 101]⟩, .func (.func 21) #[] #[], 1⟩, ⟨.string ⟨#[114, 101, 110, 101, 119]⟩, .func (.func 22) #[] #[], 2⟩, ⟨.string ⟨#[113, 117, 101, 114, 121]⟩, .func (.func 23) #[] #[], 3⟩, ⟨.string ⟨#[116, 105, 109, 101, 111, 117, 116]⟩, .func (.func 24) #[] #[], 4⟩, ⟨.string ⟨#[116, 105, 109, 101]⟩, .func (.func 25) #[] #[], 5⟩] 6) := (b1.block _ (Array.getElem?_eq_some_iff.1 H6.out.1).1).trans H6.out.1
  have c0 := HC.out w1 B1.out
  have el := mlk_none (P := Try.prog) (a := a) (z := .nilFunc) (by kernel_rfl : Try.prog.underlying 52 = some (.map 9 51)) (by kernel_rfl : Try.prog.underlying 9 = some .string) h7 (by
    show Instr.findNow .string (.string a) [⟨.string ⟨#[97, 99, 113, 117, 105, 114, 101]⟩, .func (.func 20) #[] #[], 0⟩, ⟨.string ⟨#[114, 101, 108, 101, 97, 115, 101]⟩, .func (.func 21) #[] #[], 1⟩, ⟨.string ⟨#[114, 101, 110, 101, 119]⟩, .func (.func 22) #[] #[], 2⟩, ⟨.string ⟨#[113, 117, 101, 114, 121]⟩, .func (.func 23) #[] #[], 3⟩, ⟨.string ⟨#[116, 105, 109, 101, 111, 117, 116]⟩, .func (.func 24) #[] #[], 4⟩, ⟨.string ⟨#[116, 105, 109, 101]⟩, .func (.func 25) #[] #[], 5⟩] 0 = some none
    rw [find_no (k := ⟨#[97, 99, 113, 117, 105, 114, 101]⟩) n0.out, find_no (k := ⟨#[114, 101, 108, 101, 97, 115, 101]⟩) n1.out, find_no (k := ⟨#[114, 101, 110, 101, 119]⟩) n2.out, find_no (k := ⟨#[113, 117, 101, 114, 121]⟩) n3.out, find_no (k := ⟨#[116, 105, 109, 101, 111, 117, 116]⟩) n4.out, find_no (k := ⟨#[116, 105, 109, 101]⟩) n5.out]
    rfl) (by rfl)
  have ep := pan_run w1
  clear h7 b1 e0 e1 e2 e3 e4 e5 e6 HM
  go_wp2_with fail
  exact ⟨rfl, .inr ⟨HO.out, .inl ⟨_, rfl, .inl rfl⟩⟩, B1.out⟩
end Go.Proofs.Ytlhokhccjejcoaa.Rl16
