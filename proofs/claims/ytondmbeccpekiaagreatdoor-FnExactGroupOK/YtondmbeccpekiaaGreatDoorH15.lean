/- Texts put together: Mr, Tm, Qm. -/
import Derived.Test.YtondmbeccpekiaaGreatDoorH12
import Derived.Test.YtondmbeccpekiaaGreatDoorH14
import Derived.Test.YtondmbeccpekiaaGreatDoorRows
import Derived.WalkKit
import Derived.ProofKit
import Derived.WalkSpells
import Derived.Below
import Derived.Laws.NewBlocks
/- Marks of readings, of the program and of the specification. -/
namespace Go.Proofs.YtondmbeccpekiaaGreatDoor.Mr
open Go.RowKit Go.Proofs.YtondmbeccpekiaaGreatDoor.Sl Go.Proofs.YtondmbeccpekiaaGreatDoor.By Go.Proofs.YtondmbeccpekiaaGreatDoor.Ap Go.Proofs.YtondmbeccpekiaaGreatDoor.Tx Go.Proofs.YtondmbeccpekiaaGreatDoor.Sh Go.Proofs.YtondmbeccpekiaaGreatDoor.Ho Go.Proofs.YtondmbeccpekiaaGreatDoor.Fz Go.Proofs.YtondmbeccpekiaaGreatDoor.Pu Go.Proofs.YtondmbeccpekiaaGreatDoor.Fu

def bNK : ByteArray := ⟨#[110, 111, 100, 101, 32, 107, 101, 121]⟩
def bClock : List Int := [99, 108, 111, 99, 107]
def nsec (id : Nat) : ByteArray := hashS (bys bNK ++ [(id : Int)])
def mac (id : Nat) (xs : List Int) : ByteArray := (hashS (bys (nsec id) ++ xs)).extract 0 8
def rmk (id : Nat) (x : Int) : ByteArray := mac id (bClock ++ nums x 4 4)
theorem hash_size (xs : List Int) (h : xs.length ≤ 65536) : (hashS xs).size = 32 := by
  unfold hashS
  rw [if_neg (by omega), strOfNums_size]
  show (outTo _ 8).length = 32
  rw [outTo_length]
theorem nsec_size (id : Nat) : (nsec id).size = 32 := by
  unfold nsec
  apply hash_size
  rw [List.length_append, bys_length]
  have : bNK.size = 8 := rfl
  simp only [List.length_cons, List.length_nil]
  omega
theorem nsec_len (id : Nat) : (bys (nsec id)).length = 32 := by rw [bys_length, nsec_size]
theorem rmk_len (x : Int) : (bClock ++ nums x 4 4).length = 9 := by rw [List.length_append, nums_length]; rfl
theorem rmk_range (x : Int) : ∀ z ∈ bClock ++ nums x 4 4, 0 ≤ z ∧ z ≤ 255 := range_append (by decide) (nums_range x 4 4)
theorem hash1_any (v : Value) (xs : List Int) (w : World) (h : RowB w v xs) (hl : xs.length ≤ 65536) :
    Calls Tryz.prog 96 #[v] w fun e w' => e = .returned (.string (hashS xs)) ∧ Below w.heap.size w w' := by
  have e : hashS xs = strOfNums (sha xs) := if_neg (by omega)
  rw [e]
  exact l01Hash_any v xs w h hl
theorem one_range (id : Nat) (h : id < 256) : ∀ z ∈ [(id : Int)], 0 ≤ z ∧ z ≤ 255 := by
  intro z hz
  simp at hz
  subst hz
  omega
theorem run_convert_ownF (w : World) (B : Nat) (v : Value) (zs : List Int) (h : OwnF w B v zs) : (convert 107 9 v).run Tryz.prog w = .ok (.string (strOfNums zs)) w := by
  rcases h with h | ⟨g, rfl, hg, hlt, hc⟩
  · exact By.run_convert_own (P := Tryz.prog) w B 107 5 9 Tryz.underlying107 Tryz.underlying5 Tryz.underlying9 v zs h
  · exact run_convert_bytes_arg w 107 5 Tryz.underlying107 Tryz.underlying5 g 0 zs.length zs.length zs rfl (fun i hi => by rw [Nat.zero_add]; exact hc i hi) 9 Tryz.underlying9
theorem conv_one (id : Nat) (W : World) : (convert 107 9 (.slice (some ⟨W.heap.size, 0, none⟩) 1 1)).run Tryz.prog (W.alloc (.cells #[.int .u8 id] 5)) = .ok (.string (strOfNums [(id : Int)])) (W.alloc (.cells #[.int .u8 id] 5)) :=
  By.run_convert_own (P := Tryz.prog) _ W.heap.size 107 5 9 Tryz.underlying107 Tryz.underlying5 Tryz.underlying9 _ [(id : Int)] (own_lit 5 W W.heap.size [(id : Int)] 1 rfl (Nat.le_refl _) (by decide))

set_option maxRecDepth 100000 in
set_option maxHeartbeats 400000 in
theorem markOf_any (id : Nat) (s : ByteArray) (w : World) (hi : id < 256) (hs : s.size ≤ 60000) (hK : KTab w) (hp : 0 < w.heap.size) :
    Calls Tryz.prog 105 #[.int .i64 id, .string s] w fun e w' => e = .returned (.string (mac id (bys s))) ∧ Below w.heap.size w w' := by
  have hcv := conv_one id
  have w1 : ((id : Int) % 256) = id := by omega
  have HE : Hid (hashS (cat [bNK, strOfNums [(id : Int)]]) = nsec id) := by
    show _ = _
    unfold cat nsec
    simp only [List.flatMap_cons, List.flatMap_nil, List.append_nil]
    rw [bys_str _ (one_range id hi)]
  have HL : Hid ((cat [bNK, strOfNums [(id : Int)]]).length ≤ 1000000000) := by
    show _ ≤ _
    unfold cat
    simp only [List.flatMap_cons, List.flatMap_nil, List.append_nil]
    rw [bys_str _ (one_range id hi), List.length_append, bys_length]
    have : bNK.size = 8 := rfl
    simp only [List.length_cons, List.length_nil]
    omega
  have HF : Hid (cat [nsec id, s] = bys (nsec id) ++ bys s) := by
    show _ = _
    unfold cat
    simp only [List.flatMap_cons, List.flatMap_nil, List.append_nil]
  have HG : Hid ((bys (nsec id) ++ bys s).length ≤ 60032) := by
    show _ ≤ _
    rw [List.length_append, nsec_len, bys_length]; omega
  have HM : Hid ((hashS (bys (nsec id) ++ bys s)).extract 0 8 = mac id (bys s)) := rfl
  have GK : Hid (KTab w) := hK
  clear hK
  generalize strOfNums [(id : Int)] = z at hcv HE HL
  go_enter Tryz.func105, Tryz.ntmps105
  go_wp2_with fail
  refine (hashOf_lit (w.alloc (.cells #[.int .u8 id] 5)) _ 2 (size_new _ _) _ [bNK, z] rfl rfl (by decide) (by decide) HL.out (GK.out.below (bel_new _ _) hp) (by rw [size_new]; omega)).mono ?_
  rintro e w2 ⟨rfl, b2⟩
  rw [HE.out]
  have B2 : Hid (Below w.heap.size w w2) := (bel_new w _).trans (b2.mono (by rw [size_new]; omega))
  clear b2 hcv HE HL
  generalize nsec id = t at HF HG HM
  go_wp2_with fail
  refine (hashOf_lit w2 _ 2 rfl _ [t, s] rfl rfl (by decide) (by decide) (by rw [HF.out]; have := HG.out; omega) (GK.out.below B2.out hp) (Nat.lt_of_lt_of_le hp B2.out.size)).mono ?_
  rintro e w3 ⟨rfl, b3⟩
  rw [HF.out]
  have B3 : Hid (Below w.heap.size w w3) := B2.out.trans (b3.mono B2.out.size)
  have hz : (hashS (bys t ++ bys s)).size = 32 := hash_size _ (by have := HG.out; omega)
  clear b3 HF HG
  generalize hashS (bys t ++ bys s) = q at HM hz
  have hz8 : (8 : Int) ≤ (q.size : Int) := by omega
  clear hz
  go_wp2_with fail
  go_ret
  exact ⟨Tx.ret_str HM.out, B3.out⟩

set_option maxRecDepth 100000 in
set_option maxHeartbeats 400000 in
theorem readingMark_any (id : Nat) (x : Int) (w : World) (hi : id < 256) (hK : KTab w) (hp : 0 < w.heap.size) :
    Calls Tryz.prog 180 #[.int .i64 id, .int .i64 x] w fun e w' => e = .returned (.string (rmk id x)) ∧ Below w.heap.size w w' := by
  have HO : Hid (OwnF (w.alloc (.cells #[.int .u8 99, .int .u8 108, .int .u8 111, .int .u8 99, .int .u8 107] 5 (5, 6))) w.heap.size (.slice (some ⟨w.heap.size, 0, none⟩) 5 5) bClock) := full_lit w bClock 5 rfl _ rfl _
  have hk0 := Lib.run_convert_bytes_const (P := Tryz.prog) w 107 5 #[.int .u8 99, .int .u8 108, .int .u8 111, .int .u8 99, .int .u8 107] 5 5 Tryz.underlying107 Tryz.underlying5
  have HB : Hid (Below w.heap.size w (w.alloc (.cells #[.int .u8 99, .int .u8 108, .int .u8 111, .int .u8 99, .int .u8 107] 5 (5, 6)))) := bel_new _ _
  have HE : Hid (mac id (bys (strOfNums (bClock ++ nums x 4 4))) = rmk id x) := by show _ = _; rw [bys_str _ (rmk_range x)]; rfl
  have HZ : Hid ((strOfNums (bClock ++ nums x 4 4)).size = 9) := by show _ = _; rw [strOfNums_size, rmk_len]
  have GK : Hid (KTab w) := hK
  clear hK
  go_enter Tryz.func180, Tryz.ntmps180
  go_wp2_with fail
  clear hk0
  refine (putNumberF_any _ bClock x 4 w.heap.size _ HO.out HB.out.size (by decide) (by decide)).mono ?_
  rintro e w2 ⟨v2, rfl, o2, k2⟩
  have hcv := run_convert_ownF w2 w.heap.size v2 _ o2
  have B2 : Hid (Below w.heap.size w w2) := HB.out.trans k2
  clear o2 k2 HO HB
  generalize strOfNums (bClock ++ nums x 4 4) = z at hcv HE HZ
  go_wp2_with fail
  refine (markOf_any id z w2 hi (by have := HZ.out; omega) (GK.out.below B2.out hp) (Nat.lt_of_lt_of_le hp B2.out.size)).mono ?_
  rintro e w3 ⟨rfl, b3⟩
  rw [HE.out]
  go_wp2_with fail
  go_ret
  exact ⟨rfl, B2.out.trans (b3.mono B2.out.size)⟩

set_option maxRecDepth 100000 in
set_option maxHeartbeats 400000 in
theorem l04Secret_any (id : Nat) (w : World) (hi : id < 256) :
    Calls Tryz.prog 97 #[.int .i64 id] w fun e w' => e = .returned (.string (nsec id)) ∧ Below w.heap.size w w' := by
  have hcv := conv_one id
  have w1 : ((id : Int) % 256) = id := by omega
  have HE : Hid (bys (bNK ++ strOfNums [(id : Int)]) = bys bNK ++ [(id : Int)]) := by
    show _ = _
    rw [bys_append, bys_str _ (one_range id hi)]
  have HL : Hid ((bys bNK ++ [(id : Int)]).length ≤ 65536) := by
    show _ ≤ _
    rw [List.length_append, bys_length]
    have : bNK.size = 8 := rfl
    simp only [List.length_cons, List.length_nil]
    omega
  have HM : Hid (hashS (bys bNK ++ [(id : Int)]) = nsec id) := rfl
  have hz1 : (strOfNums [(id : Int)]).size = 1 := by rw [strOfNums_size]; rfl
  have hA : ¬ 9223372036854775807 < (⟨#[110, 111, 100, 101, 32, 107, 101, 121]⟩ : ByteArray).size + (strOfNums [(id : Int)]).size := by have : (⟨#[110, 111, 100, 101, 32, 107, 101, 121]⟩ : ByteArray).size = 8 := rfl; omega
  have hA' : ¬ 9223372036854775807 < 8 + (strOfNums [(id : Int)]).size := by omega
  clear hz1
  generalize strOfNums [(id : Int)] = z at hcv HE hA hA'
  obtain ⟨v2, w2, hc2, r2, b2⟩ := bytes_run (bNK ++ z) (w.alloc (.cells #[.int .u8 id] 5))
  have hc2' : (convert 9 107 (.string ((⟨#[110, 111, 100, 101, 32, 107, 101, 121]⟩ : ByteArray) ++ z))).run Tryz.prog (w.alloc (.cells #[.int .u8 id] 5)) = .ok v2 w2 := hc2
  have R2 : Hid (RowB w2 v2 (bys (bNK ++ z))) := r2
  have B2 : Hid (Below w.heap.size w w2) := (bel_new w _).trans (b2.mono (by rw [size_new]; omega))
  clear hc2 r2 b2
  go_enter Tryz.func97, Tryz.ntmps97
  go_wp2_with fail
  refine (hash1_any v2 _ w2 R2.out (by rw [HE.out]; exact HL.out)).mono ?_
  rintro e w3 ⟨rfl, b3⟩
  rw [HE.out, HM.out]
  go_wp2_with fail
  go_ret
  exact ⟨rfl, B2.out.trans (b3.mono B2.out.size)⟩

set_option maxRecDepth 100000 in
set_option maxHeartbeats 400000 in
theorem l04Mac_any (id : Nat) (v : Value) (xs : List Int) (w : World) (hi : id < 256) (h : RowB w v xs) (hne : xs ≠ []) (hl : xs.length ≤ 60000) :
    Calls Tryz.prog 67 #[.int .i64 id, v] w fun e w' => e = .returned (.string (mac id xs)) ∧ Below w.heap.size w w' := by
  obtain ⟨i0, hi0, hz0, hz1, hz2⟩ := info_parts Sl.info5
  have HR : Hid (RowB w v xs) := h
  have HX : Hid (xs ≠ [] ∧ xs.length ≤ 60000) := ⟨hne, hl⟩
  have HM : Hid ((hashS (bys (nsec id) ++ xs)).extract 0 8 = mac id xs) := rfl
  clear h hne hl
  go_enter Tryz.func67, Tryz.ntmps67
  go_wp2_with fail
  refine (l04Secret_any id w hi).mono ?_
  rintro e w1 ⟨rfl, b1⟩
  have hts := nsec_size id
  have htl := nsec_len id
  generalize nsec id = t at HM hts htl
  obtain ⟨cap, hcv, hcn, b2, hs2⟩ := conv_run t w1
  have HT : Hid (t.size = 32 ∧ (bys t).length = 32) := ⟨hts, htl⟩
  have HB2 : Hid (Below w1.heap.size w1 (Lib.bytesWorld w1 5 t)) := b2
  have HB1 : Hid (Below w.heap.size w w1) := b1
  obtain ⟨v3, w3, hap, r3, b3⟩ := run_conv (P := Tryz.prog) 107 107 Tryz.underlying107 hi0 hz0 hz1 hz2 w1.heap.size w1.heap.size cap t.size (Lib.bytesWorld w1 5 t) v (bys t) xs (by rw [bys_length]) hcn (Nat.le_refl _) ((HR.out.below b1).below b2) HX.out.1 (bys_range t) (by have := HX.out.2; omega)
  have R3 : Hid (RowB w3 v3 (bys t ++ xs)) := r3
  have B3 : Hid (Below w.heap.size w w3) := (b1.trans (b2.mono b1.size)).trans (b3.mono b1.size)
  clear b1 b2 b3 r3 hcn hs2 hts htl HB1 HB2
  generalize Lib.bytesWorld w1 5 t = wc at hcv hap
  go_wp2_with (at_builtin; go_must (refine wpList_plain (by rfl) fun K hK => ?_; refine wp_app (by rfl) (by rfl) (by rfl) hap (hK _ _ ?_)))
  refine (hash1_any v3 _ w3 R3.out (by rw [List.length_append, HT.out.2]; have := HX.out.2; omega)).mono ?_
  rintro e w4 ⟨rfl, b4⟩
  have B4 : Hid (Below w.heap.size w w4) := B3.out.trans (b4.mono B3.out.size)
  have hz : (hashS (bys t ++ xs)).size = 32 := hash_size _ (by rw [List.length_append, HT.out.2]; have := HX.out.2; omega)
  clear b4
  generalize hashS (bys t ++ xs) = q at HM hz
  have hz8 : (8 : Int) ≤ (q.size : Int) := by omega
  clear hz
  go_wp2_with fail
  go_ret
  exact ⟨Tx.ret_str HM.out, B4.out⟩
set_option maxRecDepth 100000 in
set_option maxHeartbeats 400000 in
theorem l04Reading_any (id : Nat) (x : Int) (w : World) (hi : id < 256) :
    Calls Tryz.prog 119 #[.int .i64 id, .int .i64 x] w fun e w' => e = .returned (.string (rmk id x)) ∧ Below w.heap.size w w' := by
  obtain ⟨i0, hi0, hz0, hz1, hz2⟩ := info_parts Sl.info5
  have HO : Hid (OwnF (w.alloc (.cells #[.int .u8 99, .int .u8 108, .int .u8 111, .int .u8 99, .int .u8 107] 5 (5, 6))) w.heap.size (.slice (some ⟨w.heap.size, 0, none⟩) 5 5) bClock) := full_lit w bClock 5 rfl _ rfl _
  have hk0 := Lib.run_convert_bytes_const (P := Tryz.prog) w 107 5 #[.int .u8 99, .int .u8 108, .int .u8 111, .int .u8 99, .int .u8 107] 5 5 Tryz.underlying107 Tryz.underlying5
  have HB : Hid (Below w.heap.size w (w.alloc (.cells #[.int .u8 99, .int .u8 108, .int .u8 111, .int .u8 99, .int .u8 107] 5 (5, 6)))) := bel_new _ _
  go_enter Tryz.func119, Tryz.ntmps119
  go_wp2_with fail
  clear hk0
  refine (l02Number_any x 4 _ (by decide)).mono ?_
  rintro e w2 ⟨v2, rfl, o2, b2⟩
  have O2 : Hid (OwnF w2 w.heap.size (.slice (some ⟨w.heap.size, 0, none⟩) 5 5) bClock) := OwnF.below HO.out b2
  have R2 : Hid (RowB w2 v2 (nums x 4 4)) := own_rowB o2 (nums_range x 4 4)
  have B2 : Hid (Below w.heap.size w w2) := HB.out.trans (b2.mono HB.out.size)
  clear o2 b2 HO HB
  obtain ⟨v3, w3, hap, o3, k3⟩ := run_rowF (P := Tryz.prog) 107 107 Tryz.underlying107 hi0 hz0 hz1 hz2 w.heap.size w2 _ v2 bClock (nums x 4 4) O2.out B2.out.size R2.out (fun e => by have := nums_length x 4 4; rw [e] at this; simp at this) (by rw [nums_length]; decide)
  go_wp2_with (at_builtin; go_must (refine wpList_plain (by rfl) fun K hK => ?_; refine wp_app (by rfl) (by rfl) (by rfl) hap (hK _ _ ?_)))
  have B3 : Hid (Below w.heap.size w w3) := B2.out.trans k3
  have R3 : Hid (RowB w3 v3 (bClock ++ nums x 4 4)) := own_rowB o3 (rmk_range x)
  have HN : Hid (bClock ++ nums x 4 4 ≠ [] ∧ (bClock ++ nums x 4 4).length ≤ 60000) := ⟨fun e => by have := rmk_len x; rw [e] at this; simp at this, by rw [rmk_len]; omega⟩
  clear o3 k3 O2 R2 B2
  go_wp2_with fail
  refine (l04Mac_any id v3 _ w3 hi R3.out HN.out.1 HN.out.2).mono ?_
  rintro e w4 ⟨rfl, b4⟩
  go_wp2_with fail
  go_ret
  exact ⟨rfl, B3.out.trans (b4.mono B3.out.size)⟩
end Go.Proofs.YtondmbeccpekiaaGreatDoor.Mr

/- FaultsOf and AddTime, of the program and of the specification. -/
namespace Go.Proofs.YtondmbeccpekiaaGreatDoor.Tm
open Go.RowKit

def fOut (n : Int) : Int := if n = 1 then 0 else if n = 4 then 1 else if n = 7 then 2 else 0
def fCode (n : Int) : Int := if n = 1 ∨ n = 4 ∨ n = 7 then 0 else 4
theorem ret_ii {a b c d : Int} (h : a = c ∧ b = d) : Ending.returned (.tuple #[.int .i64 a, .int .i64 b]) = .returned (.tuple #[.int .i64 c, .int .i64 d]) := by rw [h.1, h.2]
theorem f_cases (n : Int) : n = 1 ∨ n = 4 ∨ n = 7 ∨ (n ≠ 1 ∧ n ≠ 4 ∧ n ≠ 7 ∧ fOut n = 0 ∧ fCode n = 4) := by
  by_cases h1 : n = 1
  · exact .inl h1
  by_cases h2 : n = 4
  · exact .inr (.inl h2)
  by_cases h3 : n = 7
  · exact .inr (.inr (.inl h3))
  refine .inr (.inr (.inr ⟨h1, h2, h3, ?_, ?_⟩))
  · unfold fOut; rw [if_neg h1, if_neg h2, if_neg h3]
  · unfold fCode; rw [if_neg (by omega)]
set_option maxRecDepth 100000 in
set_option maxHeartbeats 400000 in
theorem implFaultsOf_any (n : Int) (w : World) : Calls Tryz.prog 72 #[.int .i64 n] w fun e w' => e = .returned (.tuple #[.int .i64 (fOut n), .int .i64 (fCode n)]) ∧ w' = w := by
  rcases f_cases n with rfl | rfl | rfl | ⟨h1, h2, h3, e1, e2⟩
  · go_enter Tryz.func72, Tryz.ntmps72
    go_wp2
    go_ret2
    exact ⟨ret_ii ⟨by decide, by decide⟩, rfl⟩
  · go_enter Tryz.func72, Tryz.ntmps72
    go_wp2
    go_ret2
    exact ⟨ret_ii ⟨by decide, by decide⟩, rfl⟩
  · go_enter Tryz.func72, Tryz.ntmps72
    go_wp2
    go_ret2
    exact ⟨ret_ii ⟨by decide, by decide⟩, rfl⟩
  · have HE : Hid (fOut n = 0 ∧ fCode n = 4) := ⟨e1, e2⟩
    have b1 : (n == 1) = false := by simpa using h1
    have b2 : (n == 4) = false := by simpa using h2
    have b3 : (n == 7) = false := by simpa using h3
    clear h1 h2 h3 e1 e2
    go_enter Tryz.func72, Tryz.ntmps72
    go_wp2
    go_ret2
    exact ⟨ret_ii ⟨HE.out.1.symm, HE.out.2.symm⟩, rfl⟩
end Go.Proofs.YtondmbeccpekiaaGreatDoor.Tm

/- QuorumOf and PrimaryOf, of the program and of the specification. -/
namespace Go.Proofs.YtondmbeccpekiaaGreatDoor.Qm
open Go.RowKit Go.Proofs.YtondmbeccpekiaaGreatDoor.Tm

def qOut (n : Int) : Int := if n = 1 then 1 else if n = 4 then 3 else if n = 7 then 5 else 0
def inB (x a b : Int) : Bool := decide (a ≤ x ∧ x ≤ b)
theorem ret_bool {a b : Bool} (h : a = b) : Ending.returned (.bool a) = .returned (.bool b) := by rw [h]
theorem within_any (x a b : Int) (w : World) :
    Calls Tryz.prog 73 #[.int .i64 x, .int .i64 a, .int .i64 b] w fun e w' => e = .returned (.bool (inB x a b)) ∧ w = w' := by
  by_cases h1 : a ≤ x
  · by_cases h2 : x ≤ b
    all_goals
      go_enter Tryz.func73, Tryz.ntmps73
      go_wp2
      go_ret
      exact ⟨ret_bool (by unfold inB; rw [Bool.eq_iff_iff]; simp; try omega), rfl⟩
  · go_enter Tryz.func73, Tryz.ntmps73
    go_wp2
    go_ret
    exact ⟨ret_bool (by unfold inB; rw [Bool.eq_iff_iff]; simp; try omega), rfl⟩
theorem l01In_any (x a b : Int) (w : World) :
    Calls Tryz.prog 29 #[.int .i64 x, .int .i64 a, .int .i64 b] w fun e w' => e = .returned (.bool (inB x a b)) ∧ w = w' := by
  by_cases h1 : a ≤ x
  · by_cases h2 : x ≤ b
    all_goals
      go_enter Tryz.func29, Tryz.ntmps29
      go_wp2
      go_ret
      exact ⟨ret_bool (by unfold inB; rw [Bool.eq_iff_iff]; simp; try omega), rfl⟩
  · go_enter Tryz.func29, Tryz.ntmps29
    go_wp2
    go_ret
    exact ⟨ret_bool (by unfold inB; rw [Bool.eq_iff_iff]; simp; try omega), rfl⟩
theorem q_none {n : Int} (h1 : n ≠ 1) (h2 : n ≠ 4) (h3 : n ≠ 7) : qOut n = 0 := by unfold qOut; rw [if_neg h1, if_neg h2, if_neg h3]
set_option maxRecDepth 100000 in
set_option maxHeartbeats 400000 in
theorem implQuorumOf_any (n : Int) (w : World) : Calls Tryz.prog 181 #[.int .i64 n] w fun e w' => e = .returned (.tuple #[.int .i64 (qOut n), .int .i64 (fCode n)]) ∧ w = w' := by
  rcases f_cases n with rfl | rfl | rfl | ⟨h1, h2, h3, e1, e2⟩
  · have C : Calls Tryz.prog 72 #[.int .i64 1] w fun e w' => e = .returned (.tuple #[.int .i64 0, .int .i64 0]) ∧ w' = w := implFaultsOf_any 1 w
    go_enter Tryz.func181, Tryz.ntmps181
    go_wp2_with fail
    refine C.mono ?_
    rintro e w1 ⟨rfl, rfl⟩
    go_wp2_with fail
    go_ret2
    exact ⟨ret_ii ⟨by decide, by decide⟩, rfl⟩
  · have C : Calls Tryz.prog 72 #[.int .i64 4] w fun e w' => e = .returned (.tuple #[.int .i64 1, .int .i64 0]) ∧ w' = w := implFaultsOf_any 4 w
    go_enter Tryz.func181, Tryz.ntmps181
    go_wp2_with fail
    refine C.mono ?_
    rintro e w1 ⟨rfl, rfl⟩
    go_wp2_with fail
    go_ret2
    exact ⟨ret_ii ⟨by decide, by decide⟩, rfl⟩
  · have C : Calls Tryz.prog 72 #[.int .i64 7] w fun e w' => e = .returned (.tuple #[.int .i64 2, .int .i64 0]) ∧ w' = w := implFaultsOf_any 7 w
    go_enter Tryz.func181, Tryz.ntmps181
    go_wp2_with fail
    refine C.mono ?_
    rintro e w1 ⟨rfl, rfl⟩
    go_wp2_with fail
    go_ret2
    exact ⟨ret_ii ⟨by decide, by decide⟩, rfl⟩
  · have C : Calls Tryz.prog 72 #[.int .i64 n] w fun e w' => e = .returned (.tuple #[.int .i64 0, .int .i64 4]) ∧ w' = w := by have := implFaultsOf_any n w; rwa [e1, e2] at this
    have HE : Hid (qOut n = 0 ∧ fCode n = 4) := ⟨q_none h1 h2 h3, e2⟩
    clear h1 h2 h3 e1 e2
    go_enter Tryz.func181, Tryz.ntmps181
    go_wp2_with fail
    refine C.mono ?_
    rintro e w1 ⟨rfl, rfl⟩
    go_wp2_with fail
    go_ret2
    exact ⟨ret_ii ⟨HE.out.1.symm, HE.out.2.symm⟩, rfl⟩
set_option maxRecDepth 100000 in
set_option maxHeartbeats 400000 in
theorem l04Nodes_any (n : Int) (w : World) : Calls Tryz.prog 26 #[.int .i64 n] w fun e w' => e = .returned (.bool (decide (fCode n = 0))) ∧ w = w' := by
  rcases f_cases n with rfl | rfl | rfl | ⟨h1, h2, h3, _, hc⟩
  · go_enter Tryz.func26, Tryz.ntmps26
    go_wp2_with fail
    go_ret
    exact ⟨rfl, rfl⟩
  · go_enter Tryz.func26, Tryz.ntmps26
    go_wp2_with fail
    go_ret
    exact ⟨rfl, rfl⟩
  · go_enter Tryz.func26, Tryz.ntmps26
    go_wp2_with fail
    go_ret
    exact ⟨rfl, rfl⟩
  · have HC : Hid (fCode n = 4) := hc
    clear hc
    go_enter Tryz.func26, Tryz.ntmps26
    go_wp2_with fail
    go_ret
    exact ⟨by rw [HC.out]; simp [h1, h2, h3], rfl⟩
set_option maxRecDepth 100000 in
set_option maxHeartbeats 400000 in
theorem l06Quorum_any (n : Int) (w : World) (h : fCode n = 0) : Calls Tryz.prog 92 #[.int .i64 n] w fun e w' => e = .returned (.int .i64 (qOut n)) ∧ w = w' := by
  rcases f_cases n with rfl | rfl | rfl | ⟨h1, h2, h3, _, hc⟩
  · go_enter Tryz.func92, Tryz.ntmps92
    go_wp2_with fail
    go_ret
    exact ⟨rfl, rfl⟩
  · go_enter Tryz.func92, Tryz.ntmps92
    go_wp2_with fail
    go_ret
    exact ⟨rfl, rfl⟩
  · go_enter Tryz.func92, Tryz.ntmps92
    go_wp2_with fail
    go_ret
    exact ⟨rfl, rfl⟩
  · rw [hc] at h; cases h
end Go.Proofs.YtondmbeccpekiaaGreatDoor.Qm
