/- Marks of readings, of the program and of the specification. -/
import Derived.Test.YtmbnfpifganeeaaGreatDoorFz
import Derived.Test.YtmbnfpifganeeaaGreatDoorShaL
import Derived.Test.YtmbnfpifganeeaaGreatDoorFp
namespace Go.Proofs.YtmbnfpifganeeaaGreatDoor.Mr
open Go.RowKit Go.Proofs.YtmbnfpifganeeaaGreatDoor.Sl Go.Proofs.YtmbnfpifganeeaaGreatDoor.By Go.Proofs.YtmbnfpifganeeaaGreatDoor.Ap Go.Proofs.YtmbnfpifganeeaaGreatDoor.Tx Go.Proofs.YtmbnfpifganeeaaGreatDoor.Sh Go.Proofs.YtmbnfpifganeeaaGreatDoor.Ho Go.Proofs.YtmbnfpifganeeaaGreatDoor.Fz Go.Proofs.YtmbnfpifganeeaaGreatDoor.Pu Go.Proofs.YtmbnfpifganeeaaGreatDoor.Fu

def bNK : ByteArray := ⟨#[110, 111, 100, 101, 32, 107, 101, 121]⟩
def bClock : List Int := [99, 108, 111, 99, 107]
/-- A node's secret; its mark under some bytes; a reading's mark. -/
def nsec (id : Nat) : ByteArray := hashS (bys bNK ++ [(id : Int)])
def mac (id : Nat) (xs : List Int) : ByteArray := (hashS (bys (nsec id) ++ xs)).extract 0 8
def rmk (id : Nat) (x : Int) : ByteArray := mac id (bClock ++ nums x 4 4)
theorem hash_size (xs : List Int) (h : xs.length ≤ 65536) : (hashS xs).size = 32 := by
  unfold hashS
  rw [if_neg (by omega), strOfNums_size]
  show (outTo _ 8).length = 32
  rw [outTo_length]
theorem nsec_size (id : Nat) : (nsec id).size = 32 := by
  unfold nsec
  apply hash_size
  rw [List.length_append, bys_length]
  have : bNK.size = 8 := rfl
  simp only [List.length_cons, List.length_nil]
  omega
theorem nsec_len (id : Nat) : (bys (nsec id)).length = 32 := by rw [bys_length, nsec_size]
theorem rmk_len (x : Int) : (bClock ++ nums x 4 4).length = 9 := by rw [List.length_append, nums_length]; rfl
theorem rmk_range (x : Int) : ∀ z ∈ bClock ++ nums x 4 4, 0 ≤ z ∧ z ≤ 255 := range_append (by decide) (nums_range x 4 4)
theorem hash1_any (v : Value) (xs : List Int) (w : World) (h : RowB w v xs) (hl : xs.length ≤ 65536) :
    Calls Tryz.prog 64 #[v] w fun e w' => e = .returned (.string (hashS xs)) ∧ Below w.heap.size w w' := by
  have e : hashS xs = strOfNums (sha xs) := if_neg (by omega)
  rw [e]
  exact l01Hash_any v xs w h hl
theorem one_range (id : Nat) (h : id < 256) : ∀ z ∈ [(id : Int)], 0 ≤ z ∧ z ≤ 255 := by
  intro z hz
  simp at hz
  subst hz
  omega
theorem run_convert_ownF (w : World) (B : Nat) (v : Value) (zs : List Int) (h : OwnF w B v zs) : (convert 95 9 v).run Tryz.prog w = .ok (.string (strOfNums zs)) w := by
  rcases h with h | ⟨g, rfl, hg, hlt, hc⟩
  · exact By.run_convert_own (P := Tryz.prog) w B 95 5 9 Tryz.underlying95 Tryz.underlying5 Tryz.underlying9 v zs h
  · exact run_convert_bytes_arg w 95 5 Tryz.underlying95 Tryz.underlying5 g 0 zs.length zs.length zs rfl (fun i hi => by rw [Nat.zero_add]; exact hc i hi) 9 Tryz.underlying9
theorem conv_one (id : Nat) (W : World) : (convert 95 9 (.slice (some ⟨W.heap.size, 0, none⟩) 1 1)).run Tryz.prog (W.alloc (.cells #[.int .u8 id] 5)) = .ok (.string (strOfNums [(id : Int)])) (W.alloc (.cells #[.int .u8 id] 5)) :=
  By.run_convert_own (P := Tryz.prog) _ W.heap.size 95 5 9 Tryz.underlying95 Tryz.underlying5 Tryz.underlying9 _ [(id : Int)] (own_lit 5 W W.heap.size [(id : Int)] 1 rfl (Nat.le_refl _) (by decide))

set_option maxRecDepth 100000 in
set_option maxHeartbeats 400000 in
theorem markOf_any (id : Nat) (s : ByteArray) (w : World) (hi : id < 256) (hs : s.size ≤ 60000) (hK : KTab w) (hp : 0 < w.heap.size) :
    Calls Tryz.prog 55 #[.int .i64 id, .string s] w fun e w' => e = .returned (.string (mac id (bys s))) ∧ Below w.heap.size w w' := by
  have hcv := conv_one id
  have w1 : ((id : Int) % 256) = id := by omega
  have HE : Hid (hashS (cat [bNK, strOfNums [(id : Int)]]) = nsec id) := by
    show _ = _
    unfold cat nsec
    simp only [List.flatMap_cons, List.flatMap_nil, List.append_nil]
    rw [bys_str _ (one_range id hi)]
  have HL : Hid ((cat [bNK, strOfNums [(id : Int)]]).length ≤ 1000000000) := by
    show _ ≤ _
    unfold cat
    simp only [List.flatMap_cons, List.flatMap_nil, List.append_nil]
    rw [bys_str _ (one_range id hi), List.length_append, bys_length]
    have : bNK.size = 8 := rfl
    simp only [List.length_cons, List.length_nil]
    omega
  have HF : Hid (cat [nsec id, s] = bys (nsec id) ++ bys s) := by
    show _ = _
    unfold cat
    simp only [List.flatMap_cons, List.flatMap_nil, List.append_nil]
  have HG : Hid ((bys (nsec id) ++ bys s).length ≤ 60032) := by
    show _ ≤ _
    rw [List.length_append, nsec_len, bys_length]; omega
  have HM : Hid ((hashS (bys (nsec id) ++ bys s)).extract 0 8 = mac id (bys s)) := rfl
  have GK : Hid (KTab w) := hK
  clear hK
  generalize strOfNums [(id : Int)] = z at hcv HE HL
  go_enter Tryz.func55, Tryz.ntmps55
  go_wp2_with fail
  refine (hashOf_lit (w.alloc (.cells #[.int .u8 id] 5)) _ 2 (size_new _ _) _ [bNK, z] rfl rfl (by decide) (by decide) HL.out (GK.out.below (bel_new _ _) hp) (by rw [size_new]; omega)).mono ?_
  rintro e w2 ⟨rfl, b2⟩
  rw [HE.out]
  have B2 : Hid (Below w.heap.size w w2) := (bel_new w _).trans (b2.mono (by rw [size_new]; omega))
  clear b2 hcv HE HL
  generalize nsec id = t at HF HG HM
  go_wp2_with fail
  refine (hashOf_lit w2 _ 2 rfl _ [t, s] rfl rfl (by decide) (by decide) (by rw [HF.out]; have := HG.out; omega) (GK.out.below B2.out hp) (Nat.lt_of_lt_of_le hp B2.out.size)).mono ?_
  rintro e w3 ⟨rfl, b3⟩
  rw [HF.out]
  have B3 : Hid (Below w.heap.size w w3) := B2.out.trans (b3.mono B2.out.size)
  have hz : (hashS (bys t ++ bys s)).size = 32 := hash_size _ (by have := HG.out; omega)
  clear b3 HF HG
  generalize hashS (bys t ++ bys s) = q at HM hz
  have hz8 : (8 : Int) ≤ (q.size : Int) := by omega
  clear hz
  go_wp2_with fail
  go_ret
  exact ⟨Tx.ret_str HM.out, B3.out⟩

set_option maxRecDepth 100000 in
set_option maxHeartbeats 400000 in
theorem l04Secret_any (id : Nat) (w : World) (hi : id < 256) :
    Calls Tryz.prog 65 #[.int .i64 id] w fun e w' => e = .returned (.string (nsec id)) ∧ Below w.heap.size w w' := by
  have hcv := conv_one id
  have w1 : ((id : Int) % 256) = id := by omega
  have HE : Hid (bys (bNK ++ strOfNums [(id : Int)]) = bys bNK ++ [(id : Int)]) := by
    show _ = _
    rw [bys_append, bys_str _ (one_range id hi)]
  have HL : Hid ((bys bNK ++ [(id : Int)]).length ≤ 65536) := by
    show _ ≤ _
    rw [List.length_append, bys_length]
    have : bNK.size = 8 := rfl
    simp only [List.length_cons, List.length_nil]
    omega
  have HM : Hid (hashS (bys bNK ++ [(id : Int)]) = nsec id) := rfl
  have hz1 : (strOfNums [(id : Int)]).size = 1 := by rw [strOfNums_size]; rfl
  have hA : ¬ 9223372036854775807 < (⟨#[110, 111, 100, 101, 32, 107, 101, 121]⟩ : ByteArray).size + (strOfNums [(id : Int)]).size := by have : (⟨#[110, 111, 100, 101, 32, 107, 101, 121]⟩ : ByteArray).size = 8 := rfl; omega
  have hA' : ¬ 9223372036854775807 < 8 + (strOfNums [(id : Int)]).size := by omega
  clear hz1
  generalize strOfNums [(id : Int)] = z at hcv HE hA hA'
  obtain ⟨v2, w2, hc2, r2, b2⟩ := bytes_run (bNK ++ z) (w.alloc (.cells #[.int .u8 id] 5))
  have hc2' : (convert 9 95 (.string ((⟨#[110, 111, 100, 101, 32, 107, 101, 121]⟩ : ByteArray) ++ z))).run Tryz.prog (w.alloc (.cells #[.int .u8 id] 5)) = .ok v2 w2 := hc2
  have R2 : Hid (RowB w2 v2 (bys (bNK ++ z))) := r2
  have B2 : Hid (Below w.heap.size w w2) := (bel_new w _).trans (b2.mono (by rw [size_new]; omega))
  clear hc2 r2 b2
  go_enter Tryz.func65, Tryz.ntmps65
  go_wp2_with fail
  refine (hash1_any v2 _ w2 R2.out (by rw [HE.out]; exact HL.out)).mono ?_
  rintro e w3 ⟨rfl, b3⟩
  rw [HE.out, HM.out]
  go_wp2_with fail
  go_ret
  exact ⟨rfl, B2.out.trans (b3.mono B2.out.size)⟩

set_option maxRecDepth 100000 in
set_option maxHeartbeats 400000 in
theorem l04Mac_any (id : Nat) (v : Value) (xs : List Int) (w : World) (hi : id < 256) (h : RowB w v xs) (hne : xs ≠ []) (hl : xs.length ≤ 60000) :
    Calls Tryz.prog 58 #[.int .i64 id, v] w fun e w' => e = .returned (.string (mac id xs)) ∧ Below w.heap.size w w' := by
  obtain ⟨i0, hi0, hz0, hz1, hz2⟩ := info_parts Sl.info5
  have HR : Hid (RowB w v xs) := h
  have HX : Hid (xs ≠ [] ∧ xs.length ≤ 60000) := ⟨hne, hl⟩
  have HM : Hid ((hashS (bys (nsec id) ++ xs)).extract 0 8 = mac id xs) := rfl
  clear h hne hl
  go_enter Tryz.func58, Tryz.ntmps58
  go_wp2_with fail
  refine (l04Secret_any id w hi).mono ?_
  rintro e w1 ⟨rfl, b1⟩
  have hts := nsec_size id
  have htl := nsec_len id
  generalize nsec id = t at HM hts htl
  obtain ⟨cap, hcv, hcn, b2, hs2⟩ := conv_run t w1
  have HT : Hid (t.size = 32 ∧ (bys t).length = 32) := ⟨hts, htl⟩
  have HB2 : Hid (Below w1.heap.size w1 (Lib.bytesWorld w1 5 t)) := b2
  have HB1 : Hid (Below w.heap.size w w1) := b1
  obtain ⟨v3, w3, hap, r3, b3⟩ := run_conv (P := Tryz.prog) 95 95 Tryz.underlying95 hi0 hz0 hz1 hz2 w1.heap.size w1.heap.size cap t.size (Lib.bytesWorld w1 5 t) v (bys t) xs (by rw [bys_length]) hcn (Nat.le_refl _) ((HR.out.below b1).below b2) HX.out.1 (bys_range t) (by have := HX.out.2; omega)
  have R3 : Hid (RowB w3 v3 (bys t ++ xs)) := r3
  have B3 : Hid (Below w.heap.size w w3) := (b1.trans (b2.mono b1.size)).trans (b3.mono b1.size)
  clear b1 b2 b3 r3 hcn hs2 hts htl HB1 HB2
  generalize Lib.bytesWorld w1 5 t = wc at hcv hap
  go_wp2_with (at_builtin; go_must (refine wpList_plain (by rfl) fun K hK => ?_; refine wp_app (by rfl) (by rfl) (by rfl) hap (hK _ _ ?_)))
  refine (hash1_any v3 _ w3 R3.out (by rw [List.length_append, HT.out.2]; have := HX.out.2; omega)).mono ?_
  rintro e w4 ⟨rfl, b4⟩
  have B4 : Hid (Below w.heap.size w w4) := B3.out.trans (b4.mono B3.out.size)
  have hz : (hashS (bys t ++ xs)).size = 32 := hash_size _ (by rw [List.length_append, HT.out.2]; have := HX.out.2; omega)
  clear b4
  generalize hashS (bys t ++ xs) = q at HM hz
  have hz8 : (8 : Int) ≤ (q.size : Int) := by omega
  clear hz
  go_wp2_with fail
  go_ret
  exact ⟨Tx.ret_str HM.out, B4.out⟩
end Go.Proofs.YtmbnfpifganeeaaGreatDoor.Mr
