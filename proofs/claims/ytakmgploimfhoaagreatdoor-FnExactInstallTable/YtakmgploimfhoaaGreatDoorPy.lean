/- Leaves and roots of pieces: impl.pieceRoot, rootOf, the specification's l09Leaf, l09Root. -/
import Derived.Test.YtakmgploimfhoaaGreatDoorPx
import Derived.Test.YtakmgploimfhoaaGreatDoorSx
import Derived.Deep.RegionLaw
import Derived.Lib.SlBytesConst
namespace Go.Proofs.YtakmgploimfhoaaGreatDoor.Py
open Go.RowKit Go.Proofs.YtakmgploimfhoaaGreatDoor.Sl Go.Proofs.YtakmgploimfhoaaGreatDoor.By Go.Proofs.YtakmgploimfhoaaGreatDoor.Ap Go.Proofs.YtakmgploimfhoaaGreatDoor.Tx Go.Proofs.YtakmgploimfhoaaGreatDoor.Sh Go.Proofs.YtakmgploimfhoaaGreatDoor.Ho Go.Proofs.YtakmgploimfhoaaGreatDoor.Se Go.Proofs.YtakmgploimfhoaaGreatDoor.Ka Go.Proofs.YtakmgploimfhoaaGreatDoor.Sx Go.Proofs.YtakmgploimfhoaaGreatDoor.Pf Go.Proofs.YtakmgploimfhoaaGreatDoor.Px

def bPiece : ByteArray := ⟨#[112, 105, 101, 99, 101]⟩
def bNothing : ByteArray := ⟨#[110, 111, 116, 104, 105, 110, 103]⟩
def leaf (t : ByteArray) : ByteArray := hashS (bys bPiece ++ bys t)
theorem leaf_size (t : ByteArray) (h : t.size ≤ 60000) : (leaf t).size = 32 := by
  unfold leaf
  apply hash_size
  rw [List.length_append, bys_length, bys_length]
  have : bPiece.size = 5 := rfl
  omega
/-- The root of some pieces (at most f). -/
def rootF : Nat → List ByteArray → ByteArray
  | 0, _ => ⟨#[]⟩
  | f + 1, ts => if ts.length = 1 then leaf (tnth ts 0) else node (rootF f (ts.take (half ts.length))) (rootF f (ts.drop (half ts.length)))
theorem rootF_one {f : Nat} {ts : List ByteArray} (h : ts.length = 1) : rootF (f + 1) ts = leaf (tnth ts 0) := if_pos h
theorem rootF_more {f : Nat} {ts : List ByteArray} (h : ts.length ≠ 1) : rootF (f + 1) ts = node (rootF f (ts.take (half ts.length))) (rootF f (ts.drop (half ts.length))) := if_neg h
theorem rootF_size : ∀ (f : Nat) (ts : List ByteArray), 1 ≤ ts.length → ts.length ≤ f → (∀ t ∈ ts, t.size ≤ 32) → (rootF f ts).size = 32
  | 0, ts, h1, h2, _ => by omega
  | f + 1, ts, h1, h2, hs => by
    by_cases h : ts.length = 1
    · rw [rootF_one h]
      exact leaf_size _ (by have := hs _ (tnth_mem (show 0 < ts.length by omega)); omega)
    · rw [rootF_more h]
      obtain ⟨q1, q2, _⟩ := half_lt (show 2 ≤ ts.length by omega)
      have a1 := rootF_size f (ts.take (half ts.length)) (by rw [List.length_take]; omega) (by rw [List.length_take]; omega) (fun t ht => hs t (List.mem_of_mem_take ht))
      have a2 := rootF_size f (ts.drop (half ts.length)) (by rw [List.length_drop]; omega) (by rw [List.length_drop]; omega) (fun t ht => hs t (List.mem_of_mem_drop ht))
      exact node_size _ _ (by omega) (by omega)
theorem tnth_take {ts : List ByteArray} {n i : Nat} (h : i < n) : tnth (ts.take n) i = tnth ts i := by
  unfold tnth; rw [List.getD_eq_getElem?_getD, List.getD_eq_getElem?_getD, List.getElem?_take, if_pos h]
theorem tnth_drop (ts : List ByteArray) (n i : Nat) : tnth (ts.drop n) i = tnth ts (n + i) := by
  unfold tnth; rw [List.getD_eq_getElem?_getD, List.getD_eq_getElem?_getD, List.getElem?_drop]
theorem rowT_take {w : World} {a : Option Addr} {cap n : Nat} {ts : List ByteArray} (h : RowT w (.slice a ts.length cap) ts) (hn : n ≤ ts.length) : RowT w (.slice a n cap) (ts.take n) := by
  obtain ⟨a', cap', e, h⟩ := h
  simp only [Value.slice.injEq, true_and] at e
  obtain ⟨rfl, rfl⟩ := e
  have hl : (ts.take n).length = n := by rw [List.length_take]; omega
  refine ⟨a, cap, by rw [hl], ?_⟩
  rcases h with rfl | ⟨b, off, rfl, hc, hlt, h⟩
  · exact .inl (by simp)
  · refine .inr ⟨b, off, rfl, by rw [hl]; omega, hlt, fun i hi => ?_⟩
    rw [hl] at hi
    rw [tnth_take hi]
    exact h i (by omega)
theorem rowT_drop {w : World} {a : Option Addr} {cap n : Nat} {ts : List ByteArray} (h : RowT w (.slice a ts.length cap) ts) (hn : n < ts.length) : RowT w (.slice (a.map (·.add n)) (ts.length - n) (cap - n)) (ts.drop n) := by
  obtain ⟨a', cap', e, h⟩ := h
  simp only [Value.slice.injEq, true_and] at e
  obtain ⟨rfl, rfl⟩ := e
  refine ⟨_, cap - n, by rw [List.length_drop], ?_⟩
  rcases h with rfl | ⟨b, off, rfl, hc, hlt, h⟩
  · simp at hn
  · refine .inr ⟨b, off + n, by simp [Ap.addr_add], by rw [List.length_drop]; omega, hlt, fun i hi => ?_⟩
    rw [List.length_drop] at hi
    rw [tnth_drop, Nat.add_assoc]
    exact h (n + i) (by omega)
theorem rowT_cap {w : World} {a : Option Addr} {cap : Nat} {ts : List ByteArray} (h : RowT w (.slice a ts.length cap) ts) (hn : 1 ≤ ts.length) : ts.length ≤ cap := by
  obtain ⟨a', cap', e, h⟩ := h
  simp only [Value.slice.injEq, true_and] at e
  obtain ⟨rfl, rfl⟩ := e
  rcases h with rfl | ⟨b, off, rfl, hc, _⟩
  · simp at hn
  · exact hc

set_option maxHeartbeats 400000 in
theorem pieceRoot_any (t : ByteArray) (w : World) (ht : t.size ≤ 60000) (hK : KTab w) (hp : 10 < w.heap.size) :
    Calls Tryz.prog 103 #[.string t] w fun e w' => e = .returned (.string (leaf t)) ∧ Below w.heap.size w w' := by
  have HE : Hid (cat [bPiece, t] = bys bPiece ++ bys t) := by
    show _ = _
    unfold cat
    simp only [List.flatMap_cons, List.flatMap_nil, List.append_nil]
  have HL : Hid ((bys bPiece ++ bys t).length ≤ 1000000000) := by
    show _ ≤ _
    rw [List.length_append, bys_length, bys_length]
    have : bPiece.size = 5 := rfl
    omega
  have GK : Hid (KTab w) := hK
  clear hK ht
  go_enter Tryz.func103, Tryz.ntmps103
  go_wp2_with fail
  refine (hashOf_lit w _ 2 rfl _ [bPiece, t] rfl rfl (by decide) (by decide) (by rw [HE.out]; exact HL.out) GK.out hp).mono ?_
  rintro e w3 ⟨rfl, b3⟩
  rw [HE.out]
  go_wp2_with fail
  go_ret
  exact ⟨rfl, b3⟩
set_option maxRecDepth 100000 in
set_option maxHeartbeats 400000 in
theorem l09Leaf_any (t : ByteArray) (w : World) (ht : t.size ≤ 60000) :
    Calls Tryz.prog 43 #[.string t] w fun e w' => e = .returned (.string (leaf t)) ∧ Below w.heap.size w w' := by
  have HE : Hid (bys (bPiece ++ t) = bys bPiece ++ bys t) := by
    show _ = _
    rw [bys_append]
  have HL : Hid ((bys bPiece ++ bys t).length ≤ 65536) := by
    show _ ≤ _
    rw [List.length_append, bys_length, bys_length]
    have : bPiece.size = 5 := rfl
    omega
  have hA : ¬ 9223372036854775807 < (⟨#[112, 105, 101, 99, 101]⟩ : ByteArray).size + t.size := by have : (⟨#[112, 105, 101, 99, 101]⟩ : ByteArray).size = 5 := rfl; omega
  have hA' : ¬ 9223372036854775807 < 5 + t.size := by omega
  obtain ⟨v2, w2, hc2, r2, b2⟩ := bytes_run (bPiece ++ t) w
  have hc2' : (convert 9 54 (.string ((⟨#[112, 105, 101, 99, 101]⟩ : ByteArray) ++ t))).run Tryz.prog w = .ok v2 w2 := hc2
  have R2 : Hid (RowB w2 v2 (bys (bPiece ++ t))) := r2
  have B2 : Hid (Below w.heap.size w w2) := b2
  clear hc2 r2 b2
  go_enter Tryz.func43, Tryz.ntmps43
  go_wp2_with fail
  refine (hash1_any v2 _ w2 R2.out (by rw [HE.out]; exact HL.out)).mono ?_
  rintro e w3 ⟨rfl, b3⟩
  rw [HE.out]
  go_wp2_with fail
  go_ret
  exact ⟨rfl, B2.out.trans (b3.mono B2.out.size)⟩

end Go.Proofs.YtakmgploimfhoaaGreatDoor.Py
