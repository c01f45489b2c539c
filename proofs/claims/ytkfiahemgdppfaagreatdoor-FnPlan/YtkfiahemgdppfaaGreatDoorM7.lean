/- Texts put together: Fp, Mr, Rm, Rs, Is. -/
import Derived.Test.YtkfiahemgdppfaaGreatDoorM6
import Derived.Test.YtkfiahemgdppfaaGreatDoorM5
import Derived.Test.YtkfiahemgdppfaaGreatDoorM3
import Derived.Deep.RegionHeld3
import Derived.Deep.CutRange
import Derived.Deep.DeepCutAuto
import Derived.Test.YtkfiahemgdppfaaGreatDoorM0
import Derived.OpenShut
import Derived.WalkKit
import Derived.ProofKit
import Derived.ShutString
import Derived.Deep.Fields
/- A number's bytes behind a constant's: impl.putNumber onto '[]byte("..")'. -/
namespace Go.Proofs.YtkfiahemgdppfaaGreatDoor.Fu
open Go.RowKit Go.Proofs.YtkfiahemgdppfaaGreatDoor.Sl Go.Proofs.YtkfiahemgdppfaaGreatDoor.By Go.Proofs.YtkfiahemgdppfaaGreatDoor.Ap Go.Proofs.YtkfiahemgdppfaaGreatDoor.Tx Go.Proofs.YtkfiahemgdppfaaGreatDoor.Ho Go.Proofs.YtkfiahemgdppfaaGreatDoor.Fz Go.Proofs.YtkfiahemgdppfaaGreatDoor.Pu

theorem run_rowF {P : Program} {i : TypeInfo} (t ty : TypeId) (ht : P.underlying t = some (.slice 5)) (hi : P.info? 5 = some i) (hz : i.zero = some (.int .u8 0)) (hsize : i.size = 1) (hby : i.bytes = 1)
    (B : Nat) (W : World) (v u : Value) (zs xs : List Int) (hown : OwnF W B v zs) (hB : B ≤ W.heap.size) (hu : RowB W u xs) (hne : xs ≠ []) (hlen : zs.length + xs.length ≤ 1000000000) :
    ∃ v' w', (Builtin.append_ #[t, t] ty #[v, u]).run P W = .ok v' w' ∧ OwnB 5 w' B v' (zs ++ xs) ∧ Below B W w' := by
  rcases hown with hown | ⟨g, rfl, hg, hlt, hc⟩
  · obtain ⟨v', w', h1, h2, h3⟩ := run_row (P := P) t ty ht hi hz hsize hby B W v u zs xs hown hB hu (by omega)
    exact ⟨v', w', h1, h2, h3.below hown hB⟩
  · obtain ⟨a, c, rfl, hu, hrx⟩ := hu
    rcases hu with hu | ⟨b, off, rfl, hcx, hbx, hcell⟩
    · exact absurd hu hne
    have hpos : 0 < xs.length := by cases xs with | nil => exact absurd rfl hne | cons x l => simp
    have hnews : ∀ j v, (xs.map (Value.int .u8))[j]? = some v → W.cell? ((⟨b, off, none⟩ : Addr).add j) = some v := by
      intro j v hj
      have hj' : j < xs.length := by have := (List.getElem?_eq_some_iff.1 hj).1; simpa using this
      rw [addr_add, hcell j hj', ← hj, List.getElem?_map, nth8 hj']
      rfl
    have holds : ∀ j u, (zs.map (Value.int .u8))[j]? = some u → W.cell? ((⟨g, 0, none⟩ : Addr).add j) = some u := by
      intro j u hj
      have hj' : j < zs.length := by have := (List.getElem?_eq_some_iff.1 hj).1; simpa using this
      rw [addr_add, Nat.zero_add, hc j hj', ← hj, List.getElem?_map, nth8 hj']
      rfl
    have hr := run_append_grow (P := P) W t ty 5 i (.int .u8 0) ht hi hz ⟨g, 0, none⟩ zs.length zs.length (zs.map (Value.int .u8)) (by rw [hsize]; simp) holds ⟨b, off, none⟩ xs.length c (xs.map (Value.int .u8)) (by rw [hsize]; simp) hnews (by omega) (by omega) (by rw [hby]; exact growslice_fits (by omega) (by omega))
    refine ⟨_, _, hr, ?_, ⟨rfl, rfl, rfl, by simp, fun k hk => heap_alloc_old W.drew _ (show k < W.heap.size by omega)⟩⟩
    have hge := grownCap_ge W (zs.length + xs.length) zs.length 5
    have hcm : grownCap W (zs.length + xs.length) zs.length 5 ≤ maxLen := grownCap_le_maxLen W _ _ _ (by unfold maxLen; omega)
    have hl : (zs ++ xs).length = zs.length + xs.length := List.length_append
    unfold OwnB
    rw [hl, List.map_append]
    have hlen2 : (zs.map (Value.int .u8) ++ xs.map (Value.int .u8)).length = (zs.length + xs.length) * 1 := by simp
    refine ⟨hlen2, .inr ⟨W.heap.size, _, _, rfl, hB, heap_alloc_new W.drew _, hge, hcm, ?_, ?_⟩⟩
    · have hz1 : (Value.int IntKind.u8 0).cells.size = 1 := rfl
      simp only [Array.size_append, List.size_toArray, size_zeroCells, hz1, List.length_map]
      omega
    · simp only [Array.toList_append, List.append_assoc]
      rw [← List.append_assoc, ← hlen2]
      exact List.take_left
theorem list_oneF {P : Program} {i : TypeInfo} {ops : Array Oper} {rest : List Oper} {o : Oper} {a : Act} {Q : Exit → Act → World → Prop} (hgd : o.guard = none) (s x : Operand) (t : TypeId) (ho : o.op = .call { callee := .builtin .append, args := #[s, x], argTypes := #[t, t] }) (ht : P.underlying t = some (.slice 5)) (hi : P.info? 5 = some i) (hz : i.zero = some (.int .u8 0))
    (hsize : i.size = 1) (hby : i.bytes = 1) (B : Nat) (W : World) (v : Value) (z : Int) (zs : List Int) (hs : a.eval s = v) (hx : a.eval x = .slice (some ⟨W.heap.size, 0, none⟩) 1 1) (hown : OwnF W B v zs) (hB : B ≤ W.heap.size) (hz' : 0 ≤ z ∧ z ≤ 255) (hlen : zs.length ≤ 1000000)
    (h : ∀ v' w', OwnF w' B v' (zs ++ [z]) → Below B W w' → wpList P ops Q rest (a.put o.dst v') w') : wpList P ops Q (o :: rest) a (W.alloc (.cells #[.int .u8 z] 5)) := by
  have b0 := bel_new W (.cells #[.int .u8 z] 5)
  refine wpList_plain hgd fun K hK => ?_
  obtain ⟨v', w', hr, ho', hg⟩ := run_rowF (P := P) t o.type ht hi hz hsize hby B _ v _ zs [z] (OwnF.below hown b0) (Nat.le_trans hB b0.size) (own_rowB (own_one 5 W W.heap.size z (Nat.le_refl _)) (by intro y hy; simp at hy; subst hy; exact hz')) (by simp) (by simp; omega)
  exact wp_app ho hs hx hr (hK _ _ (h v' w' (.inl ho') ((b0.mono hB).trans hg)))
set_option maxHeartbeats 400000 in
theorem putNumberF_any (v : Value) (zs : List Int) (x : Int) (size : Nat) (B : Nat) (w : World) (hown : OwnF w B v zs) (hB : B ≤ w.heap.size) (hs : size ≤ 4) (hlen : zs.length ≤ 900000) :
    Calls Tryz.prog 139 #[v, .int .i64 x, .int .i64 size] w fun e w' => ∃ v', e = .returned v' ∧ OwnF w' B v' (zs ++ nums x size size) ∧ Below B w w' := by
  obtain ⟨i0, hi, hz0, hz1, hz2⟩ := info_parts Sl.info5
  have hs0 : (size : Int) ≤ 4 := by omega
  have HS : Hid (size ≤ 4) := hs
  have HL : Hid (zs.length ≤ 900000) := hlen
  clear hs hlen
  go_enter Tryz.func139, Tryz.ntmps139
  go_wp2_with fail
  go_loopw [0, 7] (fun b i wr => ∃ (k : Nat) (q : Int), Hid ((k : Int) + q + 1 = size ∧ k ≤ size) ∧ -1 ≤ q ∧ q ≤ 3 ∧ i = .int .i64 q ∧ Hid (OwnF wr B b (zs ++ nums x size k) ∧ Below B w wr)) (fun _ i _ => (intOf i + 1).toNat)
  case atStart => exact ⟨0, (size : Int) - 1, ⟨by omega, by omega⟩, by omega, by omega, by go_num, ⟨by simpa [nums] using hown, Below.refl _ _⟩⟩
  case round =>
    clear hown hs0
    obtain ⟨k, q, HQ, hq0, hq1, rfl, HO⟩ := hrel
    by_cases hlt : 0 ≤ q
    · have hl : (zs ++ nums x size k).length ≤ 1000000 := by rw [List.length_append, nums_length]; have := HQ.out; have := HL.out; have := HS.out; omega
      go_wp2_with (at_builtin; go_must (refine list_oneF (by rfl) _ _ 22 (by rfl) Tryz.underlying22 hi hz0 hz1 hz2 B _ _ _ (zs ++ nums x size k) (by rfl) (by rfl) HO.out.1 (Nat.le_trans hB HO.out.2.size) (by omega) hl ?_; intro v' w' hown' hkp'))
      have e : x / 2 ^ (8 * q).toNat % 256 = nb x (size - 1 - k) := by
        unfold nb
        rw [show (8 * q).toNat = 8 * (size - 1 - k) by have := HQ.out; omega]
      rw [e, List.append_assoc, ← nums_succ] at hown'
      exact ⟨⟨k + 1, q - 1, ⟨by have := HQ.out; omega, by have := HQ.out; omega⟩, by omega, by omega, rfl, ⟨hown', HO.out.2.trans hkp'⟩⟩, by simp [intOf]; omega⟩
    · have hk : k = size := by have := HQ.out; omega
      have HK : Hid (k = size) := hk
      clear hk
      rw [HK.out] at HO
      go_wp2
      go_ret
      exact ⟨_, rfl, HO.out.1, HO.out.2⟩
end Go.Proofs.YtkfiahemgdppfaaGreatDoor.Fu

/- Marks of readings, of the program and of the specification. -/
namespace Go.Proofs.YtkfiahemgdppfaaGreatDoor.Mr
open Go.RowKit Go.Proofs.YtkfiahemgdppfaaGreatDoor.Sl Go.Proofs.YtkfiahemgdppfaaGreatDoor.By Go.Proofs.YtkfiahemgdppfaaGreatDoor.Ap Go.Proofs.YtkfiahemgdppfaaGreatDoor.Tx Go.Proofs.YtkfiahemgdppfaaGreatDoor.Sh Go.Proofs.YtkfiahemgdppfaaGreatDoor.Ho Go.Proofs.YtkfiahemgdppfaaGreatDoor.Fz Go.Proofs.YtkfiahemgdppfaaGreatDoor.Pu Go.Proofs.YtkfiahemgdppfaaGreatDoor.Fu

def bNK : ByteArray := ⟨#[110, 111, 100, 101, 32, 107, 101, 121]⟩
def bClock : List Int := [99, 108, 111, 99, 107]
/-- A node's secret; its mark under some bytes; a reading's mark. -/
def nsec (id : Nat) : ByteArray := hashS (bys bNK ++ [(id : Int)])
def mac (id : Nat) (xs : List Int) : ByteArray := (hashS (bys (nsec id) ++ xs)).extract 0 8
def rmk (id : Nat) (x : Int) : ByteArray := mac id (bClock ++ nums x 4 4)
theorem hash_size (xs : List Int) (h : xs.length ≤ 65536) : (hashS xs).size = 32 := by
  unfold hashS
  rw [if_neg (by omega), strOfNums_size]
  show (outTo _ 8).length = 32
  rw [outTo_length]
theorem nsec_size (id : Nat) : (nsec id).size = 32 := by
  unfold nsec
  apply hash_size
  rw [List.length_append, bys_length]
  have : bNK.size = 8 := rfl
  simp only [List.length_cons, List.length_nil]
  omega
theorem nsec_len (id : Nat) : (bys (nsec id)).length = 32 := by rw [bys_length, nsec_size]
theorem rmk_len (x : Int) : (bClock ++ nums x 4 4).length = 9 := by rw [List.length_append, nums_length]; rfl
theorem rmk_range (x : Int) : ∀ z ∈ bClock ++ nums x 4 4, 0 ≤ z ∧ z ≤ 255 := range_append (by decide) (nums_range x 4 4)
theorem hash1_any (v : Value) (xs : List Int) (w : World) (h : RowB w v xs) (hl : xs.length ≤ 65536) :
    Calls Tryz.prog 104 #[v] w fun e w' => e = .returned (.string (hashS xs)) ∧ Below w.heap.size w w' := by
  have e : hashS xs = strOfNums (sha xs) := if_neg (by omega)
  rw [e]
  exact l01Hash_any v xs w h hl
theorem one_range (id : Nat) (h : id < 256) : ∀ z ∈ [(id : Int)], 0 ≤ z ∧ z ≤ 255 := by
  intro z hz
  simp at hz
  subst hz
  omega
theorem run_convert_ownF (w : World) (B : Nat) (v : Value) (zs : List Int) (h : OwnF w B v zs) : (convert 22 9 v).run Tryz.prog w = .ok (.string (strOfNums zs)) w := by
  rcases h with h | ⟨g, rfl, hg, hlt, hc⟩
  · exact By.run_convert_own (P := Tryz.prog) w B 22 5 9 Tryz.underlying22 Tryz.underlying5 Tryz.underlying9 v zs h
  · exact run_convert_bytes_arg w 22 5 Tryz.underlying22 Tryz.underlying5 g 0 zs.length zs.length zs rfl (fun i hi => by rw [Nat.zero_add]; exact hc i hi) 9 Tryz.underlying9
theorem conv_one (id : Nat) (W : World) : (convert 22 9 (.slice (some ⟨W.heap.size, 0, none⟩) 1 1)).run Tryz.prog (W.alloc (.cells #[.int .u8 id] 5)) = .ok (.string (strOfNums [(id : Int)])) (W.alloc (.cells #[.int .u8 id] 5)) :=
  By.run_convert_own (P := Tryz.prog) _ W.heap.size 22 5 9 Tryz.underlying22 Tryz.underlying5 Tryz.underlying9 _ [(id : Int)] (own_lit 5 W W.heap.size [(id : Int)] 1 rfl (Nat.le_refl _) (by decide))

set_option maxRecDepth 100000 in
set_option maxHeartbeats 400000 in
theorem markOf_any (id : Nat) (s : ByteArray) (w : World) (hi : id < 256) (hs : s.size ≤ 60000) (hK : KTab w) (hp : 0 < w.heap.size) :
    Calls Tryz.prog 122 #[.int .i64 id, .string s] w fun e w' => e = .returned (.string (mac id (bys s))) ∧ Below w.heap.size w w' := by
  have hcv := conv_one id
  have w1 : ((id : Int) % 256) = id := by omega
  have HE : Hid (hashS (cat [bNK, strOfNums [(id : Int)]]) = nsec id) := by
    show _ = _
    unfold cat nsec
    simp only [List.flatMap_cons, List.flatMap_nil, List.append_nil]
    rw [bys_str _ (one_range id hi)]
  have HL : Hid ((cat [bNK, strOfNums [(id : Int)]]).length ≤ 1000000000) := by
    show _ ≤ _
    unfold cat
    simp only [List.flatMap_cons, List.flatMap_nil, List.append_nil]
    rw [bys_str _ (one_range id hi), List.length_append, bys_length]
    have : bNK.size = 8 := rfl
    simp only [List.length_cons, List.length_nil]
    omega
  have HF : Hid (cat [nsec id, s] = bys (nsec id) ++ bys s) := by
    show _ = _
    unfold cat
    simp only [List.flatMap_cons, List.flatMap_nil, List.append_nil]
  have HG : Hid ((bys (nsec id) ++ bys s).length ≤ 60032) := by
    show _ ≤ _
    rw [List.length_append, nsec_len, bys_length]; omega
  have HM : Hid ((hashS (bys (nsec id) ++ bys s)).extract 0 8 = mac id (bys s)) := rfl
  have GK : Hid (KTab w) := hK
  clear hK
  generalize strOfNums [(id : Int)] = z at hcv HE HL
  go_enter Tryz.func122, Tryz.ntmps122
  go_wp2_with fail
  refine (hashOf_lit (w.alloc (.cells #[.int .u8 id] 5)) _ 2 (size_new _ _) _ [bNK, z] rfl rfl (by decide) (by decide) HL.out (GK.out.below (bel_new _ _) hp) (by rw [size_new]; omega)).mono ?_
  rintro e w2 ⟨rfl, b2⟩
  rw [HE.out]
  have B2 : Hid (Below w.heap.size w w2) := (bel_new w _).trans (b2.mono (by rw [size_new]; omega))
  clear b2 hcv HE HL
  generalize nsec id = t at HF HG HM
  go_wp2_with fail
  refine (hashOf_lit w2 _ 2 rfl _ [t, s] rfl rfl (by decide) (by decide) (by rw [HF.out]; have := HG.out; omega) (GK.out.below B2.out hp) (Nat.lt_of_lt_of_le hp B2.out.size)).mono ?_
  rintro e w3 ⟨rfl, b3⟩
  rw [HF.out]
  have B3 : Hid (Below w.heap.size w w3) := B2.out.trans (b3.mono B2.out.size)
  have hz : (hashS (bys t ++ bys s)).size = 32 := hash_size _ (by have := HG.out; omega)
  clear b3 HF HG
  generalize hashS (bys t ++ bys s) = q at HM hz
  have hz8 : (8 : Int) ≤ (q.size : Int) := by omega
  clear hz
  go_wp2_with fail
  go_ret
  exact ⟨Tx.ret_str HM.out, B3.out⟩

set_option maxRecDepth 100000 in
set_option maxHeartbeats 400000 in
theorem readingMark_any (id : Nat) (x : Int) (w : World) (hi : id < 256) (hK : KTab w) (hp : 0 < w.heap.size) :
    Calls Tryz.prog 147 #[.int .i64 id, .int .i64 x] w fun e w' => e = .returned (.string (rmk id x)) ∧ Below w.heap.size w w' := by
  have HO : Hid (OwnF (w.alloc (.cells #[.int .u8 99, .int .u8 108, .int .u8 111, .int .u8 99, .int .u8 107] 5 (5, 6))) w.heap.size (.slice (some ⟨w.heap.size, 0, none⟩) 5 5) bClock) := full_lit w bClock 5 rfl _ rfl _
  have hk0 := Lib.run_convert_bytes_const (P := Tryz.prog) w 22 5 #[.int .u8 99, .int .u8 108, .int .u8 111, .int .u8 99, .int .u8 107] 5 5 Tryz.underlying22 Tryz.underlying5
  have HB : Hid (Below w.heap.size w (w.alloc (.cells #[.int .u8 99, .int .u8 108, .int .u8 111, .int .u8 99, .int .u8 107] 5 (5, 6)))) := bel_new _ _
  have HE : Hid (mac id (bys (strOfNums (bClock ++ nums x 4 4))) = rmk id x) := by show _ = _; rw [bys_str _ (rmk_range x)]; rfl
  have HZ : Hid ((strOfNums (bClock ++ nums x 4 4)).size = 9) := by show _ = _; rw [strOfNums_size, rmk_len]
  have GK : Hid (KTab w) := hK
  clear hK
  go_enter Tryz.func147, Tryz.ntmps147
  go_wp2_with fail
  clear hk0
  refine (putNumberF_any _ bClock x 4 w.heap.size _ HO.out HB.out.size (by decide) (by decide)).mono ?_
  rintro e w2 ⟨v2, rfl, o2, k2⟩
  have hcv := run_convert_ownF w2 w.heap.size v2 _ o2
  have B2 : Hid (Below w.heap.size w w2) := HB.out.trans k2
  clear o2 k2 HO HB
  generalize strOfNums (bClock ++ nums x 4 4) = z at hcv HE HZ
  go_wp2_with fail
  refine (markOf_any id z w2 hi (by have := HZ.out; omega) (GK.out.below B2.out hp) (Nat.lt_of_lt_of_le hp B2.out.size)).mono ?_
  rintro e w3 ⟨rfl, b3⟩
  rw [HE.out]
  go_wp2_with fail
  go_ret
  exact ⟨rfl, B2.out.trans (b3.mono B2.out.size)⟩

set_option maxRecDepth 100000 in
set_option maxHeartbeats 400000 in
theorem l04Secret_any (id : Nat) (w : World) (hi : id < 256) :
    Calls Tryz.prog 112 #[.int .i64 id] w fun e w' => e = .returned (.string (nsec id)) ∧ Below w.heap.size w w' := by
  have hcv := conv_one id
  have w1 : ((id : Int) % 256) = id := by omega
  have HE : Hid (bys (bNK ++ strOfNums [(id : Int)]) = bys bNK ++ [(id : Int)]) := by
    show _ = _
    rw [bys_append, bys_str _ (one_range id hi)]
  have HL : Hid ((bys bNK ++ [(id : Int)]).length ≤ 65536) := by
    show _ ≤ _
    rw [List.length_append, bys_length]
    have : bNK.size = 8 := rfl
    simp only [List.length_cons, List.length_nil]
    omega
  have HM : Hid (hashS (bys bNK ++ [(id : Int)]) = nsec id) := rfl
  have hz1 : (strOfNums [(id : Int)]).size = 1 := by rw [strOfNums_size]; rfl
  have hA : ¬ 9223372036854775807 < (⟨#[110, 111, 100, 101, 32, 107, 101, 121]⟩ : ByteArray).size + (strOfNums [(id : Int)]).size := by have : (⟨#[110, 111, 100, 101, 32, 107, 101, 121]⟩ : ByteArray).size = 8 := rfl; omega
  have hA' : ¬ 9223372036854775807 < 8 + (strOfNums [(id : Int)]).size := by omega
  clear hz1
  generalize strOfNums [(id : Int)] = z at hcv HE hA hA'
  obtain ⟨v2, w2, hc2, r2, b2⟩ := bytes_run (bNK ++ z) (w.alloc (.cells #[.int .u8 id] 5))
  have hc2' : (convert 9 22 (.string ((⟨#[110, 111, 100, 101, 32, 107, 101, 121]⟩ : ByteArray) ++ z))).run Tryz.prog (w.alloc (.cells #[.int .u8 id] 5)) = .ok v2 w2 := hc2
  have R2 : Hid (RowB w2 v2 (bys (bNK ++ z))) := r2
  have B2 : Hid (Below w.heap.size w w2) := (bel_new w _).trans (b2.mono (by rw [size_new]; omega))
  clear hc2 r2 b2
  go_enter Tryz.func112, Tryz.ntmps112
  go_wp2_with fail
  refine (hash1_any v2 _ w2 R2.out (by rw [HE.out]; exact HL.out)).mono ?_
  rintro e w3 ⟨rfl, b3⟩
  rw [HE.out, HM.out]
  go_wp2_with fail
  go_ret
  exact ⟨rfl, B2.out.trans (b3.mono B2.out.size)⟩

set_option maxRecDepth 100000 in
set_option maxHeartbeats 400000 in
theorem l04Mac_any (id : Nat) (v : Value) (xs : List Int) (w : World) (hi : id < 256) (h : RowB w v xs) (hne : xs ≠ []) (hl : xs.length ≤ 60000) :
    Calls Tryz.prog 84 #[.int .i64 id, v] w fun e w' => e = .returned (.string (mac id xs)) ∧ Below w.heap.size w w' := by
  obtain ⟨i0, hi0, hz0, hz1, hz2⟩ := info_parts Sl.info5
  have HR : Hid (RowB w v xs) := h
  have HX : Hid (xs ≠ [] ∧ xs.length ≤ 60000) := ⟨hne, hl⟩
  have HM : Hid ((hashS (bys (nsec id) ++ xs)).extract 0 8 = mac id xs) := rfl
  clear h hne hl
  go_enter Tryz.func84, Tryz.ntmps84
  go_wp2_with fail
  refine (l04Secret_any id w hi).mono ?_
  rintro e w1 ⟨rfl, b1⟩
  have hts := nsec_size id
  have htl := nsec_len id
  generalize nsec id = t at HM hts htl
  obtain ⟨cap, hcv, hcn, b2, hs2⟩ := conv_run t w1
  have HT : Hid (t.size = 32 ∧ (bys t).length = 32) := ⟨hts, htl⟩
  have HB2 : Hid (Below w1.heap.size w1 (Lib.bytesWorld w1 5 t)) := b2
  have HB1 : Hid (Below w.heap.size w w1) := b1
  obtain ⟨v3, w3, hap, r3, b3⟩ := run_conv (P := Tryz.prog) 22 22 Tryz.underlying22 hi0 hz0 hz1 hz2 w1.heap.size w1.heap.size cap t.size (Lib.bytesWorld w1 5 t) v (bys t) xs (by rw [bys_length]) hcn (Nat.le_refl _) ((HR.out.below b1).below b2) HX.out.1 (bys_range t) (by have := HX.out.2; omega)
  have R3 : Hid (RowB w3 v3 (bys t ++ xs)) := r3
  have B3 : Hid (Below w.heap.size w w3) := (b1.trans (b2.mono b1.size)).trans (b3.mono b1.size)
  clear b1 b2 b3 r3 hcn hs2 hts htl HB1 HB2
  generalize Lib.bytesWorld w1 5 t = wc at hcv hap
  go_wp2_with (at_builtin; go_must (refine wpList_plain (by rfl) fun K hK => ?_; refine wp_app (by rfl) (by rfl) (by rfl) hap (hK _ _ ?_)))
  refine (hash1_any v3 _ w3 R3.out (by rw [List.length_append, HT.out.2]; have := HX.out.2; omega)).mono ?_
  rintro e w4 ⟨rfl, b4⟩
  have B4 : Hid (Below w.heap.size w w4) := B3.out.trans (b4.mono B3.out.size)
  have hz : (hashS (bys t ++ xs)).size = 32 := hash_size _ (by rw [List.length_append, HT.out.2]; have := HX.out.2; omega)
  clear b4
  generalize hashS (bys t ++ xs) = q at HM hz
  have hz8 : (8 : Int) ≤ (q.size : Int) := by omega
  clear hz
  go_wp2_with fail
  go_ret
  exact ⟨Tx.ret_str HM.out, B4.out⟩
set_option maxRecDepth 100000 in
set_option maxHeartbeats 400000 in
theorem l04Reading_any (id : Nat) (x : Int) (w : World) (hi : id < 256) :
    Calls Tryz.prog 101 #[.int .i64 id, .int .i64 x] w fun e w' => e = .returned (.string (rmk id x)) ∧ Below w.heap.size w w' := by
  obtain ⟨i0, hi0, hz0, hz1, hz2⟩ := info_parts Sl.info5
  have HO : Hid (OwnF (w.alloc (.cells #[.int .u8 99, .int .u8 108, .int .u8 111, .int .u8 99, .int .u8 107] 5 (5, 6))) w.heap.size (.slice (some ⟨w.heap.size, 0, none⟩) 5 5) bClock) := full_lit w bClock 5 rfl _ rfl _
  have hk0 := Lib.run_convert_bytes_const (P := Tryz.prog) w 22 5 #[.int .u8 99, .int .u8 108, .int .u8 111, .int .u8 99, .int .u8 107] 5 5 Tryz.underlying22 Tryz.underlying5
  have HB : Hid (Below w.heap.size w (w.alloc (.cells #[.int .u8 99, .int .u8 108, .int .u8 111, .int .u8 99, .int .u8 107] 5 (5, 6)))) := bel_new _ _
  go_enter Tryz.func101, Tryz.ntmps101
  go_wp2_with fail
  clear hk0
  refine (l02Number_any x 4 _ (by decide)).mono ?_
  rintro e w2 ⟨v2, rfl, o2, b2⟩
  have O2 : Hid (OwnF w2 w.heap.size (.slice (some ⟨w.heap.size, 0, none⟩) 5 5) bClock) := OwnF.below HO.out b2
  have R2 : Hid (RowB w2 v2 (nums x 4 4)) := own_rowB o2 (nums_range x 4 4)
  have B2 : Hid (Below w.heap.size w w2) := HB.out.trans (b2.mono HB.out.size)
  clear o2 b2 HO HB
  obtain ⟨v3, w3, hap, o3, k3⟩ := run_rowF (P := Tryz.prog) 22 22 Tryz.underlying22 hi0 hz0 hz1 hz2 w.heap.size w2 _ v2 bClock (nums x 4 4) O2.out B2.out.size R2.out (fun e => by have := nums_length x 4 4; rw [e] at this; simp at this) (by rw [nums_length]; decide)
  go_wp2_with (at_builtin; go_must (refine wpList_plain (by rfl) fun K hK => ?_; refine wp_app (by rfl) (by rfl) (by rfl) hap (hK _ _ ?_)))
  have B3 : Hid (Below w.heap.size w w3) := B2.out.trans k3
  have R3 : Hid (RowB w3 v3 (bClock ++ nums x 4 4)) := own_rowB o3 (rmk_range x)
  have HN : Hid (bClock ++ nums x 4 4 ≠ [] ∧ (bClock ++ nums x 4 4).length ≤ 60000) := ⟨fun e => by have := rmk_len x; rw [e] at this; simp at this, by rw [rmk_len]; omega⟩
  clear o3 k3 O2 R2 B2
  go_wp2_with fail
  refine (l04Mac_any id v3 _ w3 hi R3.out HN.out.1 HN.out.2).mono ?_
  rintro e w4 ⟨rfl, b4⟩
  go_wp2_with fail
  go_ret
  exact ⟨rfl, B3.out.trans (b4.mono B3.out.size)⟩
end Go.Proofs.YtkfiahemgdppfaaGreatDoor.Mr

/- ReadingMac, of the program and of the specification. -/
namespace Go.Proofs.YtkfiahemgdppfaaGreatDoor.Rm
open Go.RowKit Go.Proofs.YtkfiahemgdppfaaGreatDoor.Sl Go.Proofs.YtkfiahemgdppfaaGreatDoor.By Go.Proofs.YtkfiahemgdppfaaGreatDoor.Ap Go.Proofs.YtkfiahemgdppfaaGreatDoor.Tx Go.Proofs.YtkfiahemgdppfaaGreatDoor.Sh Go.Proofs.YtkfiahemgdppfaaGreatDoor.Ho Go.Proofs.YtkfiahemgdppfaaGreatDoor.Mr

def inR (n a b : Int) : Bool := decide (a ≤ n) && decide (n ≤ b)
theorem ret_bool {a b : Bool} (h : a = b) : Ending.returned (.bool a) = .returned (.bool b) := by rw [h]
theorem inR_nat {n a b : Int} (h : inR n a b = true) : a ≤ n ∧ n ≤ b := by unfold inR at h; simpa using h
theorem within_any (n a b : Int) (w : World) : Calls Tryz.prog 19 #[.int .i64 n, .int .i64 a, .int .i64 b] w fun e w' => e = .returned (.bool (inR n a b)) ∧ w = w' := by
  by_cases h1 : a ≤ n
  · by_cases h2 : n ≤ b
    · have HE : Hid (inR n a b = true) := by show _ = _; unfold inR; rw [decide_eq_true h1, decide_eq_true h2]; rfl
      go_enter Tryz.func19, Tryz.ntmps19
      go_wp2
      go_ret
      exact ⟨ret_bool HE.out.symm, rfl⟩
    · have HE : Hid (inR n a b = false) := by show _ = _; unfold inR; rw [decide_eq_false h2, Bool.and_false]
      go_enter Tryz.func19, Tryz.ntmps19
      go_wp2
      go_ret
      exact ⟨ret_bool HE.out.symm, rfl⟩
  · have HE : Hid (inR n a b = false) := by show _ = _; unfold inR; rw [decide_eq_false h1, Bool.false_and]
    go_enter Tryz.func19, Tryz.ntmps19
    go_wp2
    go_ret
    exact ⟨ret_bool HE.out.symm, rfl⟩
theorem l01In_any (n a b : Int) (w : World) : Calls Tryz.prog 23 #[.int .i64 n, .int .i64 a, .int .i64 b] w fun e w' => e = .returned (.bool (inR n a b)) ∧ w = w' := by
  by_cases h1 : a ≤ n
  · by_cases h2 : n ≤ b
    · have HE : Hid (inR n a b = true) := by show _ = _; unfold inR; rw [decide_eq_true h1, decide_eq_true h2]; rfl
      go_enter Tryz.func23, Tryz.ntmps23
      go_wp2
      go_ret
      exact ⟨ret_bool HE.out.symm, rfl⟩
    · have HE : Hid (inR n a b = false) := by show _ = _; unfold inR; rw [decide_eq_false h2, Bool.and_false]
      go_enter Tryz.func23, Tryz.ntmps23
      go_wp2
      go_ret
      exact ⟨ret_bool HE.out.symm, rfl⟩
  · have HE : Hid (inR n a b = false) := by show _ = _; unfold inR; rw [decide_eq_false h1, Bool.false_and]
    go_enter Tryz.func23, Tryz.ntmps23
    go_wp2
    go_ret
    exact ⟨ret_bool HE.out.symm, rfl⟩
theorem nodeOK_any (n : Int) (w : World) : Calls Tryz.prog 119 #[.int .i64 n] w fun e w' => e = .returned (.bool (inR n 0 6)) ∧ w = w' := by
  go_enter Tryz.func119, Tryz.ntmps119
  go_wp2_with (go_at_call 19; refine (within_any n 0 6 _).mono ?_; rintro e w' ⟨rfl, rfl⟩)
  go_ret
  exact ⟨rfl, rfl⟩
theorem ret_sc {s t : ByteArray} {a b : Int} (h : s = t ∧ a = b) : Ending.returned (.tuple #[.string s, .int .i64 a]) = .returned (.tuple #[.string t, .int .i64 b]) := by rw [h.1, h.2]
/-- What ReadingMac answers. -/
def okM (f x : Int) : Bool := inR f 0 6 && inR x 0 1000000000
def rmCode (f x : Int) : Int := if okM f x then 0 else 4
def rmOut (f x : Int) : ByteArray := if okM f x then rmk f.toNat x else ⟨#[]⟩
theorem rm_cases (f x : Int) : (inR f 0 6 = false ∧ rmCode f x = 4 ∧ rmOut f x = ⟨#[]⟩) ∨ (inR f 0 6 = true ∧ inR x 0 1000000000 = false ∧ rmCode f x = 4 ∧ rmOut f x = ⟨#[]⟩) ∨ (∃ i : Nat, f = i ∧ i < 7 ∧ inR f 0 6 = true ∧ inR x 0 1000000000 = true ∧ rmCode f x = 0 ∧ rmOut f x = rmk i x) := by
  unfold rmCode rmOut okM
  cases h1 : inR f 0 6 with
  | false => exact .inl ⟨rfl, rfl, rfl⟩
  | true =>
    cases h2 : inR x 0 1000000000 with
    | false => exact .inr (.inl ⟨rfl, rfl, rfl, rfl⟩)
    | true =>
      obtain ⟨a, b⟩ := inR_nat h1
      obtain ⟨i, rfl⟩ := Int.eq_ofNat_of_zero_le a
      exact .inr (.inr ⟨i, rfl, by omega, rfl, rfl, rfl, rfl⟩)
end Go.Proofs.YtkfiahemgdppfaaGreatDoor.Rm

/- Readings that are right: impl.readingsOK, readingsSigned, spec.l02Reading. -/
namespace Go.Proofs.YtkfiahemgdppfaaGreatDoor.Rs
open Go.RowKit Go.Proofs.YtkfiahemgdppfaaGreatDoor.Sl Go.Proofs.YtkfiahemgdppfaaGreatDoor.By Go.Proofs.YtkfiahemgdppfaaGreatDoor.Ap Go.Proofs.YtkfiahemgdppfaaGreatDoor.Tx Go.Proofs.YtkfiahemgdppfaaGreatDoor.Sh Go.Proofs.YtkfiahemgdppfaaGreatDoor.Ho Go.Proofs.YtkfiahemgdppfaaGreatDoor.Mr Go.Proofs.YtkfiahemgdppfaaGreatDoor.Rm Go.Proofs.YtkfiahemgdppfaaGreatDoor.Rw

/-- The least number of a node that the reading at i may have. -/
def pv (rs : List Rd) (i : Nat) : Int := if i = 0 then 0 else (rn rs (i - 1)).f + 1
theorem pv_succ (rs : List Rd) (i : Nat) : pv rs (i + 1) = (rn rs i).f + 1 := by unfold pv; rw [if_neg (by omega)]; rfl
/-- The reading at i is right, and stands where it may. -/
def okI (rs : List Rd) (i : Nat) : Bool := inR (rn rs i).f (pv rs i) 6 && (inR (rn rs i).x 0 1000000000 && ((rn rs i).m.size == 8))
/-- It is of a node that there is, and bears its mark. -/
def mkI (nodes : Int) (rs : List Rd) (i : Nat) : Bool := decide ((rn rs i).f < nodes) && ((rn rs i).m.toList == (rmk (rn rs i).f.toNat (rn rs i).x).toList)
def okAll (rs : List Rd) : Bool := decide (∀ i, i < rs.length → okI rs i = true)
def mkAll (nodes : Int) (rs : List Rd) : Bool := decide (∀ i, i < rs.length → mkI nodes rs i = true)
theorem okI_pv {rs : List Rd} {k : Nat} (h : ∀ i, i < k → okI rs i = true) (hk : k ≤ rs.length) : ∀ i, i ≤ k → 0 ≤ pv rs i ∧ pv rs i ≤ 7
  | 0, _ => by unfold pv; simp
  | i + 1, hi => by
    have ih := okI_pv h hk i (by omega)
    have := h i (by omega)
    unfold okI at this
    simp only [Bool.and_eq_true] at this
    obtain ⟨a, b⟩ := inR_nat this.1
    rw [pv_succ]
    omega
theorem okI_f {rs : List Rd} (h : ∀ i, i < rs.length → okI rs i = true) {i : Nat} (hi : i < rs.length) : 0 ≤ (rn rs i).f ∧ (rn rs i).f ≤ 6 ∧ (0 ≤ (rn rs i).x ∧ (rn rs i).x ≤ 1000000000) ∧ (rn rs i).m.size = 8 := by
  have h1 := okI_pv h (Nat.le_refl _) i (by omega)
  have h2 := h i hi
  unfold okI at h2
  simp only [Bool.and_eq_true] at h2
  obtain ⟨a, b⟩ := inR_nat h2.1
  exact ⟨by omega, b, inR_nat h2.2.1, by simpa using h2.2.2⟩
set_option maxRecDepth 100000 in
set_option maxHeartbeats 800000 in
theorem readingsOK_any (v : Value) (rs : List Rd) (w : World) (h : RowR w v rs) (hl : rs.length ≤ 1048576) :
    Calls Tryz.prog 146 #[v] w fun e w' => e = .returned (.bool (okAll rs)) ∧ Below w.heap.size w w' := by
  have HR : Hid (RowR w v rs) := h
  obtain ⟨a, cap, rfl, _⟩ := h
  go_enter Tryz.func146, Tryz.ntmps146
  go_wp2_with fail
  go_loopw [3, 8] (fun p i wr => ∃ k : Nat, k ≤ rs.length ∧ i = .int .i64 k ∧ p = .int .i64 (pv rs k) ∧ Hid ((∀ j, j < k → okI rs j = true) ∧ Below w.heap.size w wr)) (fun _ i _ => rs.length - (intOf i).toNat)
  case atStart => exact ⟨0, by omega, rfl, rfl, ⟨fun j hj => by omega, Below.refl _ _⟩⟩
  case round =>
    obtain ⟨k, hk, rfl, rfl, HK⟩ := hrel
    by_cases hlt : k < rs.length
    · obtain ⟨a', cap', he, hc⟩ := HR.out.below HK.out.2
      rcases hc with hc | ⟨b, off, rfl, _, hbl, hcell⟩
      · exact absurd hlt (by rw [hc]; simp)
      cases he
      obtain ⟨c0, c1, c2⟩ := hcell k hlt
      clear hcell
      have HO : Hid (okI rs k = (inR (rn rs k).f (pv rs k) 6 && (inR (rn rs k).x 0 1000000000 && ((rn rs k).m.size == 8)))) := rfl
      have HS : Hid (pv rs (k + 1) = (rn rs k).f + 1) := pv_succ rs k
      have HN : Hid (okI rs k = false → okAll rs = false) := fun h => decide_eq_false fun hh => by rw [hh k hlt] at h; cases h
      have HY : Hid (okI rs k = true → ∀ j, j < k + 1 → okI rs j = true) := fun h j hj => by
        by_cases e : j = k
        · rw [e]; exact h
        · exact HK.out.1 j (by omega)
      have HBB : Hid (Below w.heap.size w wr) := HK.out.2
      have HW : ∀ o : Obj, Below w.heap.size w (wr.alloc o) := fun o => HBB.out.trans ((bel_new wr o).mono HBB.out.size)
      have HWW : Hid (∀ o : Obj, Below w.heap.size w (wr.alloc o)) := HW
      clear HW
      have hp0 : 0 ≤ pv rs k := (okI_pv HK.out.1 hk k (Nat.le_refl _)).1
      generalize (rn rs k).f = f at c0 HO HS
      generalize (rn rs k).x = x at c1 HO
      generalize (rn rs k).m = m at c2 HO
      generalize pv rs k = p at HO hp0
      cases h1 : inR f p 6 with
      | false =>
        rw [h1] at HO
        go_wp2_with (go_at_call 19; refine (within_any _ _ _ _).mono ?_; rintro e w1 ⟨rfl, rfl⟩; rw [h1])
        go_ret
        exact ⟨ret_bool (HN.out HO.out).symm, HWW.out _⟩
      | true =>
        cases h2 : inR x 0 1000000000 with
        | false =>
          rw [h1, h2] at HO
          go_wp2_with (go_at_call 19; refine (within_any _ _ _ _).mono ?_; rintro e w1 ⟨rfl, rfl⟩; first | rw [h1] | rw [h2])
          go_ret
          exact ⟨ret_bool (HN.out HO.out).symm, HWW.out _⟩
        | true =>
          obtain ⟨f1, f2⟩ := inR_nat h1
          by_cases h3 : m.size = 8
          · have h3' : ((m.size : Int) != 8) = false := by simp; omega
            have HO' : Hid (okI rs k = true) := by show _ = _; rw [HO.out, h1, h2]; simp [h3]
            have hp : 0 ≤ f := by omega
            go_wp2_with (go_at_call 19; refine (within_any _ _ _ _).mono ?_; rintro e w1 ⟨rfl, rfl⟩; first | rw [h1] | rw [h2])
            exact ⟨⟨k + 1, by omega, by go_num, by rw [HS.out], ⟨HY.out HO'.out, HWW.out _⟩⟩, by simp [intOf]; omega⟩
          · have h3' : ((m.size : Int) != 8) = true := by simp; omega
            have HO' : Hid (okI rs k = false) := by show _ = _; rw [HO.out, h1, h2]; simp [h3]
            go_wp2_with (go_at_call 19; refine (within_any _ _ _ _).mono ?_; rintro e w1 ⟨rfl, rfl⟩; first | rw [h1] | rw [h2])
            go_ret
            exact ⟨ret_bool (HN.out HO'.out).symm, HWW.out _⟩
    · obtain rfl : k = rs.length := by omega
      have HY : Hid (okAll rs = true) := decide_eq_true HK.out.1
      go_wp2_with fail
      go_ret
      exact ⟨ret_bool HY.out.symm, HK.out.2⟩
set_option maxRecDepth 100000 in
set_option maxHeartbeats 400000 in
theorem l02Reading_any (f x : Int) (m : ByteArray) (w : World) :
    Calls Tryz.prog 100 #[.agg #[.int .i64 f, .int .i64 x, .string m]] w fun e w' => e = .returned (.bool (inR f 0 6 && (inR x 0 1000000000 && (m.size == 8)))) ∧ Below w.heap.size w w' := by
  cases h1 : inR f 0 6 with
  | false =>
    go_enter Tryz.func100, Tryz.ntmps100
    go_wp2_with (go_at_call 23; refine (l01In_any _ _ _ _).mono ?_; rintro e w1 ⟨rfl, rfl⟩; rw [h1])
    go_ret
    exact ⟨rfl, bel_new _ _⟩
  | true =>
    cases h2 : inR x 0 1000000000 with
    | false =>
      go_enter Tryz.func100, Tryz.ntmps100
      go_wp2_with (go_at_call 23; refine (l01In_any _ _ _ _).mono ?_; rintro e w1 ⟨rfl, rfl⟩; first | rw [h1] | rw [h2])
      go_ret
      exact ⟨rfl, bel_new _ _⟩
    | true =>
      have HE : Hid (((m.size : Int) == 8) = (m.size == 8)) := by
        show _ = _
        by_cases h : m.size = 8
        · simp [h]
        · have : ¬ (m.size : Int) = 8 := by omega
          rw [beq_eq_false_iff_ne.2 this, beq_eq_false_iff_ne.2 h]
      go_enter Tryz.func100, Tryz.ntmps100
      go_wp2_with (go_at_call 23; refine (l01In_any _ _ _ _).mono ?_; rintro e w1 ⟨rfl, rfl⟩; first | rw [h1] | rw [h2])
      go_ret
      exact ⟨ret_bool (by rw [HE.out]; rfl), bel_new _ _⟩
theorem below_n {B : Nat} {w0 w : World} (h : Below B w0 w) {n : Nat} : Below B w0 (w.drewN n) := ⟨h.os, h.tape, h.output, h.size, h.block⟩
theorem pick_cells {w : World} {v : Value} {rs : List Rd} {n cap : Nat} {a : Option Addr} (h : RowR w v rs) (hv : v = .slice a n cap) {k : Nat} (hk : k < rs.length) : ∃ b off, a = some ⟨b, off, none⟩ ∧ b < w.heap.size ∧ w.cell? ⟨b, off + k * 3, none⟩ = some (.int .i64 (rn rs k).f) ∧ w.cell? ⟨b, off + k * 3 + 1, none⟩ = some (.int .i64 (rn rs k).x) ∧ w.cell? ⟨b, off + k * 3 + 2, none⟩ = some (.string (rn rs k).m) := by
  obtain ⟨a', cap', rfl, hc⟩ := h
  rcases hc with hc | ⟨b, off, rfl, _, hbl, hcell⟩
  · exact absurd hk (by rw [hc]; simp)
  cases hv
  exact ⟨b, off, rfl, hbl, hcell k hk⟩
theorem box_cells (w : World) (f x : Int) (m : ByteArray) (t : TypeId) : ∀ W, Below (w.heap.size + 1) (w.alloc (.cells #[.int .i64 f, .int .i64 x, .string m] t)) W → W.cell? ⟨w.heap.size, 0, none⟩ = some (.int .i64 f) ∧ W.cell? ⟨w.heap.size, 1, none⟩ = some (.int .i64 x) ∧ W.cell? ⟨w.heap.size, 2, none⟩ = some (.string m) := fun W hW => by
  have h1 := (hW.block w.heap.size (by omega)).trans (heap_alloc_new w (.cells #[.int .i64 f, .int .i64 x, .string m] t))
  exact ⟨by simp [World.cell?, h1], by simp [World.cell?, h1], by simp [World.cell?, h1]⟩
set_option maxRecDepth 100000 in
set_option maxHeartbeats 1600000 in
theorem readingsSigned_any (nodes : Int) (v : Value) (rs : List Rd) (w : World) (h : RowR w v rs) (hl : rs.length ≤ 1048576) (hK : KTab w) (hp : 0 < w.heap.size) :
    Calls Tryz.prog 129 #[.int .i64 nodes, v] w fun e w' => e = .returned (.bool (okAll rs && mkAll nodes rs)) ∧ Below w.heap.size w w' := by
  have HR : Hid (RowR w v rs) := h
  have GK : Hid (KTab w) := hK
  obtain ⟨a, cap, rfl, _⟩ := h
  clear hK
  cases ho : okAll rs with
  | false =>
    go_enter Tryz.func129, Tryz.ntmps129
    go_wp2_with fail
    refine (readingsOK_any _ rs w HR.out hl).mono ?_
    rintro e w1 ⟨rfl, b1⟩
    rw [ho]
    go_wp2_with fail
    go_ret
    exact ⟨rfl, b1⟩
  | true =>
    have HO : Hid (∀ i, i < rs.length → okI rs i = true) := (show ∀ i, i < rs.length → okI rs i = true from of_decide_eq_true ho)
    go_enter Tryz.func129, Tryz.ntmps129
    go_wp2_with fail
    refine (readingsOK_any _ rs w HR.out hl).mono ?_
    rintro e w1 ⟨rfl, b1⟩
    rw [ho]
    have HB1 : Hid (Below w.heap.size w w1) := b1
    clear b1 ho
    go_wp2_with fail
    go_loopw [12] (fun i wr => ∃ k : Nat, k ≤ rs.length ∧ i = .int .i64 k ∧ Hid ((∀ j, j < k → mkI nodes rs j = true) ∧ Below w.heap.size w wr)) (fun i _ => rs.length - (intOf i).toNat)
    case atStart => exact ⟨0, by omega, rfl, ⟨fun j hj => by omega, HB1.out⟩⟩
    case round =>
      clear HB1
      obtain ⟨k, hk, rfl, HK⟩ := hrel
      by_cases hlt : k < rs.length
      · obtain ⟨b, off, rfl, hbl, c0, c1, c2⟩ := pick_cells (HR.out.below HK.out.2) rfl hlt
        have HM : Hid (mkI nodes rs k = (decide ((rn rs k).f < nodes) && ((rn rs k).m.toList == (rmk (rn rs k).f.toNat (rn rs k).x).toList))) := rfl
        have HN : Hid (mkI nodes rs k = false → mkAll nodes rs = false) := fun h => decide_eq_false fun hh => by rw [hh k hlt] at h; cases h
        have HY : Hid (mkI nodes rs k = true → ∀ j, j < k + 1 → mkI nodes rs j = true) := fun h j hj => by
          by_cases e : j = k
          · rw [e]; exact h
          · exact HK.out.1 j (by omega)
        have hf := (okI_f HO.out hlt)
        have HBB : Hid (Below w.heap.size w wr) := HK.out.2
        clear HK
        generalize (rn rs k).f = f at c0 HM hf
        generalize (rn rs k).x = x at c1 HM hf
        generalize (rn rs k).m = m at c2 HM hf
        obtain ⟨i, rfl⟩ := Int.eq_ofNat_of_zero_le hf.1
        rw [Int.toNat_natCast] at HM
        have hi7 : i < 256 := by omega
        have HX := box_cells wr i x m 157
        have HXX : Hid (∀ W, Below (wr.heap.size + 1) (wr.alloc (.cells #[.int .i64 (i : Int), .int .i64 x, .string m] 157)) W → W.cell? ⟨wr.heap.size, 0, none⟩ = some (.int .i64 (i : Int)) ∧ W.cell? ⟨wr.heap.size, 1, none⟩ = some (.int .i64 x) ∧ W.cell? ⟨wr.heap.size, 2, none⟩ = some (.string m)) := HX
        have HBN : Hid (Below w.heap.size w (wr.alloc (.cells #[.int .i64 (i : Int), .int .i64 x, .string m] 157))) := HBB.out.trans ((bel_new wr _).mono HBB.out.size)
        have HSZ : Hid ((wr.alloc (.cells #[.int .i64 (i : Int), .int .i64 x, .string m] 157)).heap.size = wr.heap.size + 1) := size_new _ _
        have HKK : Hid (KTab (wr.alloc (.cells #[.int .i64 (i : Int), .int .i64 x, .string m] 157)) ∧ 0 < (wr.alloc (.cells #[.int .i64 (i : Int), .int .i64 x, .string m] 157)).heap.size) := ⟨GK.out.below HBN.out hp, Nat.lt_of_lt_of_le hp HBN.out.size⟩
        clear HX hf
        go_upto_region 6 with fail
        generalize wr.alloc (.cells #[.int .i64 (i : Int), .int .i64 x, .string m] 157) = wb at HXX HBN HSZ HKK ⊢
        obtain ⟨x0, x1, x2⟩ := HXX.out wb (by rw [← HSZ.out]; exact Below.refl _ _)
        by_cases hg : nodes ≤ (i : Int)
        · have HMF : Hid (mkI nodes rs k = false) := by show _ = _; rw [HM.out, decide_eq_false (by omega)]; rfl
          have hge : decide (nodes ≤ (i : Int)) = true := decide_eq_true hg
          go_quiet (fail)
          all_goals
            go_wp2_with fail
            go_ret
            exact ⟨ret_bool (by rw [HN.out HMF.out]; rfl), below_n HBN.out⟩
        · have hg' : (i : Int) < nodes := by omega
          have HD : Hid (KTab wb.drew ∧ 0 < wb.drew.heap.size) := HKK.out
          have HMM : Hid (mkI nodes rs k = (m.toList == (rmk i x).toList)) := by show _ = _; rw [HM.out, decide_eq_true hg']; rfl
          have HQ : Hid (∀ w2, Below wb.drew.heap.size wb.drew w2 → w2.cell? ⟨wr.heap.size, 0, none⟩ = some (.int .i64 (i : Int)) ∧ w2.cell? ⟨wr.heap.size, 1, none⟩ = some (.int .i64 x) ∧ w2.cell? ⟨wr.heap.size, 2, none⟩ = some (.string m) ∧ Below w.heap.size w w2) := fun w2 hw2 => by
            have hb := (Ap.ordB rfl hw2).1
            obtain ⟨q0, q1, q2⟩ := HXX.out w2 (by rw [← HSZ.out]; exact hb)
            exact ⟨q0, q1, q2, HBN.out.trans (hb.mono HBN.out.size)⟩
          have hge : decide (nodes ≤ (i : Int)) = false := decide_eq_false hg
          cases he : (m.toList == (rmk i x).toList) with
          | true =>
            have he2 : (m.toList != (rmk i x).toList) = false := by rw [bne, he]; rfl
            rw [he] at HMM
            go_region_held (fun w' => w'.cell? ⟨wr.heap.size, 0, none⟩ = some (.int .i64 (i : Int)) ∧ w'.cell? ⟨wr.heap.size, 1, none⟩ = some (.int .i64 x) ∧ w'.cell? ⟨wr.heap.size, 2, none⟩ = some (.string m)) (first | exact ⟨x0, x1, x2⟩ | (refine ⟨?_, ?_, ?_⟩ <;> assumption) | go_keep)
              (first | (go_at_call 147; refine (readingMark_any i x _ hi7 HD.out.1 HD.out.2).mono ?_; rintro e w2 ⟨rfl, b2⟩; obtain ⟨y0, y1, y2, g2⟩ := HQ.out w2 b2; clear b2))
            all_goals
              go_wp2_with fail
              exact ⟨⟨k + 1, by omega, by go_num, ⟨HY.out HMM.out, g2⟩⟩, by simp [intOf]; omega⟩
          | false =>
            have he2 : (m.toList != (rmk i x).toList) = true := by rw [bne, he]; rfl
            rw [he] at HMM
            go_region_held (fun w' => w'.cell? ⟨wr.heap.size, 0, none⟩ = some (.int .i64 (i : Int)) ∧ w'.cell? ⟨wr.heap.size, 1, none⟩ = some (.int .i64 x) ∧ w'.cell? ⟨wr.heap.size, 2, none⟩ = some (.string m)) (first | exact ⟨x0, x1, x2⟩ | (refine ⟨?_, ?_, ?_⟩ <;> assumption) | go_keep)
              (first | (go_at_call 147; refine (readingMark_any i x _ hi7 HD.out.1 HD.out.2).mono ?_; rintro e w2 ⟨rfl, b2⟩; obtain ⟨y0, y1, y2, g2⟩ := HQ.out w2 b2; clear b2))
            all_goals
              go_wp2_with fail
              go_ret
              exact ⟨ret_bool (by rw [HN.out HMM.out]; rfl), g2⟩
      · obtain rfl : k = rs.length := by omega
        have HY : Hid (mkAll nodes rs = true) := decide_eq_true HK.out.1
        go_wp2_with fail
        go_ret
        exact ⟨ret_bool (by rw [HY.out]; rfl), HK.out.2⟩
end Go.Proofs.YtkfiahemgdppfaaGreatDoor.Rs

/- Integers in a slice: read, copied, compared. -/
namespace Go.Proofs.YtkfiahemgdppfaaGreatDoor.Is
open Go.RowKit Go.Proofs.YtkfiahemgdppfaaGreatDoor.Sl

/-- The slice v holds the integers xs (whatever room lies behind them). -/
def RowI (w : World) (v : Value) (xs : List Int) : Prop :=
  ∃ a cap, v = .slice a xs.length cap ∧ (xs = [] ∨ ∃ b off, a = some ⟨b, off, none⟩ ∧ xs.length ≤ cap ∧ b < w.heap.size ∧ ∀ i, i < xs.length → w.cell? ⟨b, off + i, none⟩ = some (.int .i64 (nth xs i))) ∧ ∀ x ∈ xs, -9223372036854775808 ≤ x ∧ x ≤ 9223372036854775807
theorem RowI.below {w w' : World} {v : Value} {xs : List Int} (h : RowI w v xs) (hb : Below w.heap.size w w') : RowI w' v xs := by
  obtain ⟨a, cap, rfl, h, hr⟩ := h
  refine ⟨a, cap, rfl, ?_, hr⟩
  rcases h with h | ⟨b, off, rfl, hc, hlt, h⟩
  · exact .inl h
  · exact .inr ⟨b, off, rfl, hc, Nat.lt_of_lt_of_le hlt hb.size, fun i hi => (hb.cell (p := ⟨b, off + i, none⟩) hlt).trans (h i hi)⟩
theorem info3 : (Tryz.prog.info? 3).map (fun i => (i.zero, i.size, i.bytes)) = some (some (.int .i64 0), 1, 8) := by kernel_rfl
theorem nth_at {xs : List Int} {i : Nat} (h : i < xs.length) : xs[i]? = some (nth xs i) := by
  unfold nth; rw [List.getD_eq_getElem?_getD, List.getElem?_eq_getElem h]; rfl
theorem nth_mem {xs : List Int} {i : Nat} (h : i < xs.length) : nth xs i ∈ xs := List.mem_of_getElem? (nth_at h)
/-- Integers in a slice of the call's own that may have room behind. -/
def OwnI (w : World) (B : Nat) (v : Value) (xs : List Int) : Prop := w.ownsRow B 3 1 v xs.length (xs.map (Value.int .i64))
theorem OwnI.row {w : World} {B : Nat} {v : Value} {xs : List Int} (h : OwnI w B v xs) (hr : ∀ x ∈ xs, -9223372036854775808 ≤ x ∧ x ≤ 9223372036854775807) : RowI w v xs := by
  obtain ⟨hl, h⟩ := h
  rcases h with ⟨rfl, h0⟩ | ⟨g, cap, cur, rfl, hB, hg, hc, _, hs, htk⟩
  · exact ⟨none, 0, by rw [h0], .inl (List.length_eq_zero_iff.1 h0), hr⟩
  · refine ⟨_, cap, rfl, .inr ⟨g, 0, rfl, hc, (Array.getElem?_eq_some_iff.1 hg).1, fun i hi => ?_⟩, hr⟩
    have h1 : (cur.toList.take (xs.length * 1))[i]? = some (.int .i64 (nth xs i)) := by
      rw [htk, List.getElem?_map, nth_at hi]; rfl
    rw [List.getElem?_take] at h1
    split at h1
    · simp only [World.cell?, hg, Nat.zero_add]
      simpa using h1
    · cases h1

end Go.Proofs.YtkfiahemgdppfaaGreatDoor.Is
