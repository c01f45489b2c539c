/- A node's seed and root, of the program and of the specification. -/
import Derived.Test.YtiflfcpoajijaaaGreatDoorJMakeCertificate11
import Derived.Test.YtiflfcpoajijaaaGreatDoorJMakeCertificate10
namespace Go.Proofs.YtiflfcpoajijaaaGreatDoor.Ns
open Go.RowKit Go.Proofs.YtiflfcpoajijaaaGreatDoor.Sl Go.Proofs.YtiflfcpoajijaaaGreatDoor.By Go.Proofs.YtiflfcpoajijaaaGreatDoor.Ap Go.Proofs.YtiflfcpoajijaaaGreatDoor.Tx Go.Proofs.YtiflfcpoajijaaaGreatDoor.Sh Go.Proofs.YtiflfcpoajijaaaGreatDoor.Ho Go.Proofs.YtiflfcpoajijaaaGreatDoor.Se Go.Proofs.YtiflfcpoajijaaaGreatDoor.Ka Go.Proofs.YtiflfcpoajijaaaGreatDoor.Sx Go.Proofs.YtiflfcpoajijaaaGreatDoor.Hf Go.Proofs.YtiflfcpoajijaaaGreatDoor.Sa Go.Proofs.YtiflfcpoajijaaaGreatDoor.Kx Go.Proofs.YtiflfcpoajijaaaGreatDoor.Lv Go.Proofs.YtiflfcpoajijaaaGreatDoor.Cr

def bSd : ByteArray := ⟨#[110, 111, 100, 101, 32, 115, 101, 101, 100]⟩
/-- A node's seed. -/
def nsd (i : Nat) : ByteArray := hashS (bys bSd ++ [(i : Int)])
theorem nsd_size (i : Nat) : (nsd i).size = 32 := hash_size _ (by rw [List.length_append, bys_length]; show 9 + 1 ≤ 65536; decide)
/-- What NodeSeed and NodeRoot answer. -/
def nsC (id : Int) : Int := if inR id 0 6 then 0 else 4
def nsO (id : Int) : ByteArray := if inR id 0 6 then nsd id.toNat else ⟨#[]⟩
def nrO (id : Int) : ByteArray := if inR id 0 6 then rootS (nsd id.toNat) else ⟨#[]⟩
theorem ns_bad {id : Int} (h : inR id 0 6 = false) : nsC id = 4 ∧ nsO id = ⟨#[]⟩ ∧ nrO id = ⟨#[]⟩ := by unfold nsC nsO nrO; rw [h]; exact ⟨rfl, rfl, rfl⟩
theorem ns_good {id : Int} (h : inR id 0 6 = true) : nsC id = 0 ∧ nsO id = nsd id.toNat ∧ nrO id = rootS (nsd id.toNat) := by unfold nsC nsO nrO; rw [h]; exact ⟨rfl, rfl, rfl⟩
theorem nodeOK_any (n : Int) (w : World) : Calls Tryz.prog 32 #[.int .i64 n] w fun e w' => e = .returned (.bool (inR n 0 6)) ∧ w = w' := by
  go_enter Tryz.func32, Tryz.ntmps32
  go_wp2_with (go_at_call 62; refine (within_any _ _ _ _).mono ?_; rintro e w1 ⟨rfl, rfl⟩)
  go_ret
  exact ⟨rfl, rfl⟩
theorem seed_row (i : Nat) (hi : i < 7) : (∀ z ∈ [(i : Int)], 0 ≤ z ∧ z ≤ 255) := by
  intro z hz
  simp at hz
  omega
set_option maxRecDepth 100000 in
set_option maxHeartbeats 1600000 in
theorem implNodeSeed_any (id : Int) (w : World) (hK : KTab w) (hp : 0 < w.heap.size) :
    Calls Tryz.prog 10 #[.int .i64 id] w fun e w' => e = .returned (.tuple #[.string (nsO id), .int .i64 (nsC id)]) ∧ Below w.heap.size w w' := by
  have HN := nodeOK_any id w
  cases h : inR id 0 6 with
  | false =>
    have HE : Hid (nsC id = 4 ∧ nsO id = ⟨#[]⟩ ∧ nrO id = ⟨#[]⟩) := ns_bad h
    rw [h] at HN
    clear h
    go_enter Tryz.func10, Tryz.ntmps10
    go_wp2_with (go_at_call 32; refine HN.mono ?_; rintro e w1 ⟨rfl, rfl⟩)
    go_ret2
    exact ⟨ret_sc ⟨HE.out.2.1.symm, HE.out.1.symm⟩, Below.refl _ _⟩
  | true =>
    have hb := inR_nat h
    have HE : Hid (nsC id = 0 ∧ nsO id = nsd id.toNat ∧ nrO id = rootS (nsd id.toNat)) := ns_good h
    rw [h] at HN
    clear h
    obtain ⟨i, rfl⟩ : ∃ i : Nat, id = (i : Int) := ⟨id.toNat, by omega⟩
    rw [Int.toNat_natCast] at HE
    have hi : i < 7 := by omega
    have hcv : ∀ W : World, (convert 22 9 (.slice (some ⟨W.heap.size, 0, none⟩) 1 1)).run Tryz.prog (W.alloc (.cells #[.int .u8 i] 5)) = .ok (.string (strOfNums [(i : Int)])) (W.alloc (.cells #[.int .u8 i] 5)) := fun W =>
      By.run_convert_own (P := Tryz.prog) _ W.heap.size 22 5 9 Tryz.underlying22 Tryz.underlying5 Tryz.underlying9 _ [(i : Int)] (own_lit 5 W W.heap.size [(i : Int)] 1 rfl (Nat.le_refl _) (by decide))
    have w1 : ((i : Int) % 256) = i := by omega
    have HC : Hid (cat [bSd, strOfNums [(i : Int)]] = bys bSd ++ [(i : Int)]) := by
      show _ = _
      unfold cat
      simp only [List.flatMap_cons, List.flatMap_nil, List.append_nil]
      rw [bys_str _ (seed_row i hi)]
    have HL : Hid ((bys bSd ++ [(i : Int)]).length ≤ 65536) := by show _ ≤ _; rw [List.length_append, bys_length]; show 9 + 1 ≤ 65536; decide
    have GK : Hid (KTab w) := hK
    clear hK
    generalize strOfNums [(i : Int)] = z at hcv HC
    go_enter Tryz.func10, Tryz.ntmps10
    go_wp2_with (go_at_call 32; refine HN.mono ?_; rintro e w1 ⟨rfl, rfl⟩)
    refine (hashOf_lit (w.alloc (.cells #[.int .u8 i] 5)) _ 2 (size_new _ _) _ [bSd, z] rfl rfl (by decide) (by decide) (by rw [HC.out]; have := HL.out; omega) (GK.out.below (bel_new _ _) hp) (by rw [size_new]; omega)).mono ?_
    rintro e w3 ⟨rfl, b3⟩
    rw [HC.out]
    go_wp2_with fail
    go_ret2
    exact ⟨ret_sc ⟨HE.out.2.1.symm, HE.out.1.symm⟩, (bel_new w _).trans (b3.mono (by rw [size_new]; omega))⟩
set_option maxRecDepth 100000 in
set_option maxHeartbeats 1600000 in
theorem l12Seed_any (i : Nat) (w : World) (hi : i < 7) :
    Calls Tryz.prog 42 #[.int .i64 i] w fun e w' => e = .returned (.string (nsd i)) ∧ Below w.heap.size w w' := by
  have hcv : ∀ W : World, (convert 22 9 (.slice (some ⟨W.heap.size, 0, none⟩) 1 1)).run Tryz.prog (W.alloc (.cells #[.int .u8 i] 5)) = .ok (.string (strOfNums [(i : Int)])) (W.alloc (.cells #[.int .u8 i] 5)) := fun W =>
    By.run_convert_own (P := Tryz.prog) _ W.heap.size 22 5 9 Tryz.underlying22 Tryz.underlying5 Tryz.underlying9 _ [(i : Int)] (own_lit 5 W W.heap.size [(i : Int)] 1 rfl (Nat.le_refl _) (by decide))
  have w1 : ((i : Int) % 256) = i := by omega
  have HE : Hid (bys (bSd ++ strOfNums [(i : Int)]) = bys bSd ++ [(i : Int)]) := by
    show _ = _
    rw [bys_append, bys_str _ (seed_row i hi)]
  have HL : Hid ((bys bSd ++ [(i : Int)]).length ≤ 65536) := by show _ ≤ _; rw [List.length_append, bys_length]; show 9 + 1 ≤ 65536; decide
  have hz3 : (strOfNums [(i : Int)]).size = 1 := by rw [strOfNums_size]; rfl
  have hA : ¬ 9223372036854775807 < (⟨#[110, 111, 100, 101, 32, 115, 101, 101, 100]⟩ : ByteArray).size + (strOfNums [(i : Int)]).size := by have : (⟨#[110, 111, 100, 101, 32, 115, 101, 101, 100]⟩ : ByteArray).size = 9 := rfl; omega
  have hA' : ¬ 9223372036854775807 < 9 + (strOfNums [(i : Int)]).size := by omega
  clear hz3
  generalize strOfNums [(i : Int)] = z at hcv HE hA hA'
  obtain ⟨v2, w2, hc2, r2, b2⟩ := bytes_run (bSd ++ z) (w.alloc (.cells #[.int .u8 i] 5))
  have hc2' : (convert 9 22 (.string ((⟨#[110, 111, 100, 101, 32, 115, 101, 101, 100]⟩ : ByteArray) ++ z))).run Tryz.prog (w.alloc (.cells #[.int .u8 i] 5)) = .ok v2 w2 := hc2
  have R2 : Hid (RowB w2 v2 (bys (bSd ++ z))) := r2
  have B2 : Hid (Below w.heap.size w w2) := (bel_new w _).trans (b2.mono (by rw [size_new]; omega))
  clear hc2 r2 b2
  go_enter Tryz.func42, Tryz.ntmps42
  go_wp2_with fail
  refine (hash1_any v2 _ w2 R2.out (by rw [HE.out]; exact HL.out)).mono ?_
  rintro e w3 ⟨rfl, b3⟩
  rw [HE.out]
  have G : Hid (Below w.heap.size w w3) := B2.out.trans (b3.mono B2.out.size)
  clear b3
  go_wp2_with fail
  go_ret
  exact ⟨rfl, G.out⟩
set_option maxRecDepth 100000 in
set_option maxHeartbeats 1600000 in
theorem implNodeRoot_any (id : Int) (w : World) (hK : KTab w) (hp : 0 < w.heap.size) :
    Calls Tryz.prog 11 #[.int .i64 id] w fun e w' => e = .returned (.tuple #[.string (nrO id), .int .i64 (nsC id)]) ∧ Below w.heap.size w w' := by
  have HS := implNodeSeed_any id w hK hp
  cases h : inR id 0 6 with
  | false =>
    have HE : Hid (nsC id = 4 ∧ nsO id = ⟨#[]⟩ ∧ nrO id = ⟨#[]⟩) := ns_bad h
    rw [HE.out.1] at HS
    clear h
    go_enter Tryz.func11, Tryz.ntmps11
    go_wp2_with fail
    refine HS.mono ?_
    rintro e w3 ⟨rfl, b3⟩
    go_wp2_with fail
    go_ret2
    exact ⟨ret_sc ⟨HE.out.2.2.symm, HE.out.1.symm⟩, b3⟩
  | true =>
    have HE : Hid (nsC id = 0 ∧ nsO id = nsd id.toNat ∧ nrO id = rootS (nsd id.toNat)) := ns_good h
    rw [HE.out.1, HE.out.2.1] at HS
    have HR : Hid (∀ W, Below w.heap.size w W → Calls Tryz.prog 34 #[.string (nsd id.toNat)] W fun e w' => e = .returned (.tuple #[.string (rootS (nsd id.toNat)), .int .i64 0]) ∧ Below W.heap.size W w') := fun W hW => by
      have := implChainRoot_any (nsd id.toNat) W (hK.below hW hp) (Nat.lt_of_lt_of_le hp hW.size)
      have h0 := hf_ok (nsd_size id.toNat)
      unfold rOut at this
      rwa [h0, if_pos rfl] at this
    clear h hK
    generalize nsd id.toNat = s at HS HR HE
    go_enter Tryz.func11, Tryz.ntmps11
    go_wp2_with fail
    refine HS.mono ?_
    rintro e w3 ⟨rfl, b3⟩
    have B3 : Hid (Below w.heap.size w w3) := b3
    clear b3
    go_wp2_with fail
    refine (HR.out _ B3.out).mono ?_
    rintro e w4 ⟨rfl, b4⟩
    have G : Hid (Below w.heap.size w w4) := B3.out.trans (b4.mono B3.out.size)
    clear b4
    go_wp2_with fail
    go_ret2
    exact ⟨ret_sc ⟨HE.out.2.2.symm, HE.out.1.symm⟩, G.out⟩
theorem keys_row (i : Nat) (w : World) : Calls Tryz.prog 36 #[.string (nsd i)] w fun e w' => ∃ v, e = .returned v ∧ RowT w' v (keysTo (nsd i) 8) ∧ Below w.heap.size w w' :=
  (l03Keys_any (nsd i) w (by rw [nsd_size]; decide)).mono fun e w' ⟨v, h1, h2, h3⟩ => ⟨v, h1, h2.row, h3⟩
end Go.Proofs.YtiflfcpoajijaaaGreatDoor.Ns
