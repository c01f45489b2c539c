/- CheckPiece: what the specification answers. -/
import Derived.Test.YtgakmjonfecnhaaDoorPr9
namespace Go.Proofs.YtgakmjonfecnhaaDoor.Pw
open Go.RowKit Go.Proofs.YtgakmjonfecnhaaDoor.Sl Go.Proofs.YtgakmjonfecnhaaDoor.By Go.Proofs.YtgakmjonfecnhaaDoor.Ap Go.Proofs.YtgakmjonfecnhaaDoor.Tx Go.Proofs.YtgakmjonfecnhaaDoor.Sh Go.Proofs.YtgakmjonfecnhaaDoor.Ho Go.Proofs.YtgakmjonfecnhaaDoor.Se Go.Proofs.YtgakmjonfecnhaaDoor.Ka Go.Proofs.YtgakmjonfecnhaaDoor.Sx Go.Proofs.YtgakmjonfecnhaaDoor.Pf Go.Proofs.YtgakmjonfecnhaaDoor.Px Go.Proofs.YtgakmjonfecnhaaDoor.Py

set_option maxRecDepth 100000 in
set_option maxHeartbeats 3200000 in
theorem specCheckPiece_any (root piece : ByteArray) (i n : Int) (v : Value) (ps : List ByteArray) (w : World) (h : RowT w v ps) (hl : ps.length ≤ 1048576) :
    Calls Tryd.prog 33 #[.string root, .string piece, .int .i64 i, .int .i64 n, v] w fun e w' => e = .returned (.int .i64 (ckC root piece i n ps)) ∧ Below w.heap.size w w' := by
  have hrow := h
  obtain ⟨a, cap, rfl, hcl⟩ := h
  by_cases c1 : 65536 < root.size
  · have HE : Hid (ckC root piece i n ps = 2) := ck_long (.inl c1)
    have c1' : (65536 : Int) < (root.size : Int) := by omega
    clear hrow hcl
    go_enter Tryd.func33, Tryd.ntmps33
    go_wp2_with fail
    go_ret
    exact ⟨retI HE.out.symm, Below.refl _ _⟩
  have c1' : ¬ (65536 : Int) < (root.size : Int) := by omega
  by_cases c2 : 65536 < piece.size
  · have HE : Hid (ckC root piece i n ps = 2) := ck_long (.inr (.inl c2))
    have c2' : (65536 : Int) < (piece.size : Int) := by omega
    clear hrow hcl
    go_enter Tryd.func33, Tryd.ntmps33
    go_wp2_with fail
    go_ret
    exact ⟨retI HE.out.symm, Below.refl _ _⟩
  have c2' : ¬ (65536 : Int) < (piece.size : Int) := by omega
  by_cases c3 : 4096 < ps.length
  · have HE : Hid (ckC root piece i n ps = 2) := ck_long (.inr (.inr c3))
    have c3' : (4096 : Int) < (ps.length : Int) := by omega
    clear hrow hcl
    go_enter Tryd.func33, Tryd.ntmps33
    go_wp2_with fail
    go_ret
    exact ⟨retI HE.out.symm, Below.refl _ _⟩
  have c3' : ¬ (4096 : Int) < (ps.length : Int) := by omega
  have h0 : ¬ (65536 < root.size ∨ 65536 < piece.size ∨ 4096 < ps.length) := by omega
  by_cases d1 : root.size = 32
  case neg =>
    have HE : Hid (ckC root piece i n ps = 1) := ck_bad h0 (.inl d1)
    have d1' : ((root.size : Int) != 32) = true := by simp; omega
    clear hrow hcl h0 c1 c2 c3 d1
    go_enter Tryd.func33, Tryd.ntmps33
    go_wp2_with fail
    go_ret
    exact ⟨retI HE.out.symm, Below.refl _ _⟩
  have d1' : ((root.size : Int) != 32) = false := by simp; omega
  by_cases d3 : 32 < piece.size
  · have HE : Hid (ckC root piece i n ps = 1) := ck_bad h0 (.inr (.inr d3))
    have d3' : (32 : Int) < (piece.size : Int) := by omega
    clear hrow hcl h0 c1 c2 c3 d1 d3
    go_enter Tryd.func33, Tryd.ntmps33
    go_wp2_with fail
    go_ret
    exact ⟨retI HE.out.symm, Below.refl _ _⟩
  have d3' : ¬ (32 : Int) < (piece.size : Int) := by omega
  have HB : Hid (haP ps = false → ckC root piece i n ps = 1) := fun h => ck_bad h0 (.inr (.inl h))
  have HI1 : Hid (Calls Tryd.prog 47 #[.int .i64 n, .int .i64 1, .int .i64 64] w fun e w' => e = .returned (.bool (inP n 1 64)) ∧ w = w') := l01In_any _ _ _ w
  have HI2 : Hid (Calls Tryd.prog 47 #[.int .i64 i, .int .i64 0, .int .i64 (n - 1)] w fun e w' => e = .returned (.bool (inP i 0 (n - 1))) ∧ w = w') := l01In_any _ _ _ w
  have HROW : Hid (RowT w (.slice a ps.length cap) ps) := hrow
  have H0 : Hid (¬ (65536 < root.size ∨ 65536 < piece.size ∨ 4096 < ps.length)) := h0
  have H1 : Hid (haP ps = true → ¬ (root.size ≠ 32 ∨ haP ps = false ∨ 32 < piece.size)) := fun d2 => by
    rintro (h | h | h)
    · exact h d1
    · rw [d2] at h; cases h
    · exact d3 h
  have HPS : Hid (piece.size ≤ 60000 ∧ ps.length ≤ 4096) := ⟨by omega, by omega⟩
  clear h0 c1 c2 c3 d1 d3 hrow
  go_enter Tryd.func33, Tryd.ntmps33
  go_wp2_with fail
  go_loop [11] (fun j => ∃ k : Nat, k ≤ ps.length ∧ j = .int .i64 k ∧ Hid (∀ q, q < k → (tnth ps q).size = 32)) (fun j => ps.length - (intOf j).toNat)
  case atStart => exact ⟨0, by omega, rfl, fun j hj => absurd hj (by omega)⟩
  case round =>
    obtain ⟨k, hk, rfl, HI⟩ := hrel
    by_cases hlt : k < ps.length
    · rcases hcl with h | ⟨b, off, rfl, hc, hb, hcell⟩
      · exact absurd hlt (by rw [h]; simp)
      have cc := hcell k hlt
      have hp1 : (k : Int) < (ps.length : Int) := by omega
      by_cases h32 : (tnth ps k).size = 32
      · have HJ : Hid (∀ q, q < k + 1 → (tnth ps q).size = 32) := fun j hj => by
          by_cases e : j = k
          · subst e; exact h32
          · exact HI.out j (by omega)
        have h32' : (((tnth ps k).size : Int) != 32) = false := by simp; omega
        clear hcell h32
        generalize tnth ps k = t at cc h32'
        go_wp2_with fail
        go_round
        case rel => exact ⟨k + 1, by omega, by go_num, HJ⟩
        case measure => simp [intOf]; omega
      · have HE : Hid (ckC root piece i n ps = 1) := HB.out (ha_bad hlt h32)
        have h32' : (((tnth ps k).size : Int) != 32) = true := by simp; omega
        clear hcell h32
        generalize tnth ps k = t at cc h32'
        go_wp2_with fail
        go_ret
        exact ⟨retI HE.out.symm, Below.refl _ _⟩
    · obtain rfl : k = ps.length := by omega
      have d2 : haP ps = true := ha_yes HI.out
      have h1 := H1.out d2
      have h0 := H0.out
      have hge : ¬ (ps.length : Int) < (ps.length : Int) := by omega
      clear hcl HI hlt hk
      cases e1 : inP n 1 64
      case false =>
        have HE : Hid (ckC root piece i n ps = 4) := ck_range h0 h1 (by rw [e1]; rintro ⟨h, _⟩; cases h)
        rw [e1] at HI1
        clear h0 h1 d2 e1
        go_wp2_with (first | (go_at_call 47; refine HI1.out.mono ?_; rintro e w1 ⟨rfl, rfl⟩) | fail)
        go_ret
        exact ⟨retI HE.out.symm, Below.refl _ _⟩
      case true =>
        rw [e1] at HI1
        obtain ⟨n1, n2⟩ := inP_get e1
        have hwr : IntKind.i64.wrap (n - 1) = n - 1 := by rw [IntKind.wrap_i64]; omega
        have hwr2 : wrap64 (n - 1) = n - 1 := by unfold wrap64; omega
        cases e2 : inP i 0 (n - 1)
        case false =>
          have HE : Hid (ckC root piece i n ps = 4) := ck_range h0 h1 (by rw [e2]; rintro ⟨_, h⟩; cases h)
          rw [e2] at HI2
          clear h0 h1 d2 e1 e2
          go_wp2_with (first | (go_at_call 47; (with_reducible refine HI1.out.mono ?_); rintro e w1 ⟨rfl, rfl⟩) | (go_at_call 47; (with_reducible refine HI2.out.mono ?_); rintro e w1 ⟨rfl, rfl⟩) | fail)
          go_ret
          exact ⟨retI HE.out.symm, Below.refl _ _⟩
        case true =>
          rw [e2] at HI2
          obtain ⟨i1, i2⟩ := inP_get e2
          obtain ⟨k, rfl⟩ : ∃ k : Nat, i = (k : Int) := ⟨i.toNat, by omega⟩
          obtain ⟨m, rfl⟩ : ∃ m : Nat, n = (m : Int) := ⟨n.toNat, by omega⟩
          have hall := ha_get d2
          have HLF : Hid (Calls Tryd.prog 73 #[.string piece] w fun e w' => e = .returned (.string (leaf piece)) ∧ Below w.heap.size w w') := l09Leaf_any piece w HPS.out.1
          have HUP : Hid (∀ W, Below w.heap.size w W → Calls Tryd.prog 72 #[.string (leaf piece), .int .i64 k, .int .i64 m, .slice a ps.length cap] W fun e w' => ∃ x, e = .returned (.tuple #[.string x, .bool (decide (ps.length = szP 64 k m))]) ∧ (x.size ≤ 32 ∧ (ps.length = szP 64 k m → x = upF 64 (leaf piece) k m ps)) ∧ Below W.heap.size W w') := fun W hW =>
            l09Up_any 64 (leaf piece) k m ps _ W (HROW.out.below hW) (by omega) (by omega) (by decide) (leaf_size _ HPS.out.1) hall HPS.out.2
          have HCN : Hid (¬ ps.length = szP 64 k m → ckC root piece k m ps = 10) := fun h => ck_proof h0 h1 ⟨e1, e2⟩ h
          have HCK : Hid (ps.length = szP 64 k m → ckC root piece k m ps = if (upF 64 (leaf piece) k m ps).toList == root.toList then 0 else 11) := fun f1 => by
            by_cases hq : upF 64 (leaf piece) k m ps = root
            · rw [ck_ok h0 h1 ⟨e1, e2⟩ f1 hq, toList_eq hq]; rfl
            · rw [ck_root h0 h1 ⟨e1, e2⟩ f1 hq, toList_ne hq]; rfl
          generalize upF 64 (leaf piece) k m ps = y at HUP HCK
          generalize leaf piece = lf at HLF HUP
          clear h0 h1 d2 e1 e2 hall
          go_wp2_with (first | (go_at_call 47; (with_reducible refine HI1.out.mono ?_); rintro e w1 ⟨rfl, rfl⟩) | (go_at_call 47; (with_reducible refine HI2.out.mono ?_); rintro e w1 ⟨rfl, rfl⟩) | fail)
          refine HLF.out.mono ?_
          rintro e w2 ⟨rfl, b2⟩
          go_wp2_with fail
          refine (HUP.out w2 b2).mono ?_
          rintro e w3 ⟨x, rfl, hx, b3⟩
          have B3 := b2.trans (b3.mono b2.size)
          have HX : Hid (ps.length = szP 64 k m → x = y) := hx.2
          clear b2 b3 hx HUP HLF
          by_cases f1 : ps.length = szP 64 k m
          · obtain rfl := HX.out f1
            have HC := HCK.out f1
            rw [decide_eq_true f1]
            clear f1 HX HCN HCK
            cases hq : x.toList == root.toList
            case false =>
              have HE : Hid (ckC root piece k m ps = 11) := by rw [hq] at HC; exact HC
              clear HC
              go_wp2_with fail
              go_ret
              exact ⟨retI HE.out.symm, B3⟩
            case true =>
              have HE : Hid (ckC root piece k m ps = 0) := by rw [hq] at HC; exact HC
              clear HC
              go_wp2_with fail
              go_ret
              exact ⟨retI HE.out.symm, B3⟩
          · have HE : Hid (ckC root piece k m ps = 10) := HCN.out f1
            rw [decide_eq_false f1]
            clear f1 HX HCN HCK
            go_wp2_with fail
            go_ret
            exact ⟨retI HE.out.symm, B3⟩
end Go.Proofs.YtgakmjonfecnhaaDoor.Pw
