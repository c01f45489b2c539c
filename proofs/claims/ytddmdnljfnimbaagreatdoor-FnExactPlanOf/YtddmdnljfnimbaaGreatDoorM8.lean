/- Texts put together: Mr, Tm, Qm, Sm6. -/
import Derived.Test.YtddmdnljfnimbaaGreatDoorM6
import Derived.Test.YtddmdnljfnimbaaGreatDoorM7
import Derived.Test.YtddmdnljfnimbaaGreatDoorRows
import Derived.WalkKit
import Derived.ProofKit
import Derived.WalkSpells
import Derived.Below
import Derived.Laws.NewBlocks
import Derived.Test.YtddmdnljfnimbaaGreatDoorM3
import Derived.Test.YtddmdnljfnimbaaGreatDoorM0
import Derived.Deep.RegionHeldLaw
/- Marks of readings, of the program and of the specification. -/
namespace Go.Proofs.YtddmdnljfnimbaaGreatDoor.Mr
open Go.RowKit Go.Proofs.YtddmdnljfnimbaaGreatDoor.Sl Go.Proofs.YtddmdnljfnimbaaGreatDoor.By Go.Proofs.YtddmdnljfnimbaaGreatDoor.Ap Go.Proofs.YtddmdnljfnimbaaGreatDoor.Tx Go.Proofs.YtddmdnljfnimbaaGreatDoor.Sh Go.Proofs.YtddmdnljfnimbaaGreatDoor.Ho Go.Proofs.YtddmdnljfnimbaaGreatDoor.Fz Go.Proofs.YtddmdnljfnimbaaGreatDoor.Pu Go.Proofs.YtddmdnljfnimbaaGreatDoor.Fu

def bNK : ByteArray := ⟨#[110, 111, 100, 101, 32, 107, 101, 121]⟩
def bClock : List Int := [99, 108, 111, 99, 107]
/-- A node's secret; its mark under some bytes; a reading's mark. -/
def nsec (id : Nat) : ByteArray := hashS (bys bNK ++ [(id : Int)])
def mac (id : Nat) (xs : List Int) : ByteArray := (hashS (bys (nsec id) ++ xs)).extract 0 8
def rmk (id : Nat) (x : Int) : ByteArray := mac id (bClock ++ nums x 4 4)
theorem hash_size (xs : List Int) (h : xs.length ≤ 65536) : (hashS xs).size = 32 := by
  unfold hashS
  rw [if_neg (by omega), strOfNums_size]
  show (outTo _ 8).length = 32
  rw [outTo_length]
theorem nsec_size (id : Nat) : (nsec id).size = 32 := by
  unfold nsec
  apply hash_size
  rw [List.length_append, bys_length]
  have : bNK.size = 8 := rfl
  simp only [List.length_cons, List.length_nil]
  omega
theorem nsec_len (id : Nat) : (bys (nsec id)).length = 32 := by rw [bys_length, nsec_size]
theorem rmk_len (x : Int) : (bClock ++ nums x 4 4).length = 9 := by rw [List.length_append, nums_length]; rfl
theorem rmk_range (x : Int) : ∀ z ∈ bClock ++ nums x 4 4, 0 ≤ z ∧ z ≤ 255 := range_append (by decide) (nums_range x 4 4)
theorem hash1_any (v : Value) (xs : List Int) (w : World) (h : RowB w v xs) (hl : xs.length ≤ 65536) :
    Calls Tryz.prog 66 #[v] w fun e w' => e = .returned (.string (hashS xs)) ∧ Below w.heap.size w w' := by
  have e : hashS xs = strOfNums (sha xs) := if_neg (by omega)
  rw [e]
  exact l01Hash_any v xs w h hl
theorem one_range (id : Nat) (h : id < 256) : ∀ z ∈ [(id : Int)], 0 ≤ z ∧ z ≤ 255 := by
  intro z hz
  simp at hz
  subst hz
  omega
theorem run_convert_ownF (w : World) (B : Nat) (v : Value) (zs : List Int) (h : OwnF w B v zs) : (convert 91 9 v).run Tryz.prog w = .ok (.string (strOfNums zs)) w := by
  rcases h with h | ⟨g, rfl, hg, hlt, hc⟩
  · exact By.run_convert_own (P := Tryz.prog) w B 91 5 9 Tryz.underlying91 Tryz.underlying5 Tryz.underlying9 v zs h
  · exact run_convert_bytes_arg w 91 5 Tryz.underlying91 Tryz.underlying5 g 0 zs.length zs.length zs rfl (fun i hi => by rw [Nat.zero_add]; exact hc i hi) 9 Tryz.underlying9
theorem conv_one (id : Nat) (W : World) : (convert 91 9 (.slice (some ⟨W.heap.size, 0, none⟩) 1 1)).run Tryz.prog (W.alloc (.cells #[.int .u8 id] 5)) = .ok (.string (strOfNums [(id : Int)])) (W.alloc (.cells #[.int .u8 id] 5)) :=
  By.run_convert_own (P := Tryz.prog) _ W.heap.size 91 5 9 Tryz.underlying91 Tryz.underlying5 Tryz.underlying9 _ [(id : Int)] (own_lit 5 W W.heap.size [(id : Int)] 1 rfl (Nat.le_refl _) (by decide))

set_option maxRecDepth 100000 in
set_option maxHeartbeats 400000 in
theorem markOf_any (id : Nat) (s : ByteArray) (w : World) (hi : id < 256) (hs : s.size ≤ 60000) (hK : KTab w) (hp : 0 < w.heap.size) :
    Calls Tryz.prog 106 #[.int .i64 id, .string s] w fun e w' => e = .returned (.string (mac id (bys s))) ∧ Below w.heap.size w w' := by
  have hcv := conv_one id
  have w1 : ((id : Int) % 256) = id := by omega
  have HE : Hid (hashS (cat [bNK, strOfNums [(id : Int)]]) = nsec id) := by
    show _ = _
    unfold cat nsec
    simp only [List.flatMap_cons, List.flatMap_nil, List.append_nil]
    rw [bys_str _ (one_range id hi)]
  have HL : Hid ((cat [bNK, strOfNums [(id : Int)]]).length ≤ 1000000000) := by
    show _ ≤ _
    unfold cat
    simp only [List.flatMap_cons, List.flatMap_nil, List.append_nil]
    rw [bys_str _ (one_range id hi), List.length_append, bys_length]
    have : bNK.size = 8 := rfl
    simp only [List.length_cons, List.length_nil]
    omega
  have HF : Hid (cat [nsec id, s] = bys (nsec id) ++ bys s) := by
    show _ = _
    unfold cat
    simp only [List.flatMap_cons, List.flatMap_nil, List.append_nil]
  have HG : Hid ((bys (nsec id) ++ bys s).length ≤ 60032) := by
    show _ ≤ _
    rw [List.length_append, nsec_len, bys_length]; omega
  have HM : Hid ((hashS (bys (nsec id) ++ bys s)).extract 0 8 = mac id (bys s)) := rfl
  have GK : Hid (KTab w) := hK
  clear hK
  generalize strOfNums [(id : Int)] = z at hcv HE HL
  go_enter Tryz.func106, Tryz.ntmps106
  go_wp2_with fail
  refine (hashOf_lit (w.alloc (.cells #[.int .u8 id] 5)) _ 2 (size_new _ _) _ [bNK, z] rfl rfl (by decide) (by decide) HL.out (GK.out.below (bel_new _ _) hp) (by rw [size_new]; omega)).mono ?_
  rintro e w2 ⟨rfl, b2⟩
  rw [HE.out]
  have B2 : Hid (Below w.heap.size w w2) := (bel_new w _).trans (b2.mono (by rw [size_new]; omega))
  clear b2 hcv HE HL
  generalize nsec id = t at HF HG HM
  go_wp2_with fail
  refine (hashOf_lit w2 _ 2 rfl _ [t, s] rfl rfl (by decide) (by decide) (by rw [HF.out]; have := HG.out; omega) (GK.out.below B2.out hp) (Nat.lt_of_lt_of_le hp B2.out.size)).mono ?_
  rintro e w3 ⟨rfl, b3⟩
  rw [HF.out]
  have B3 : Hid (Below w.heap.size w w3) := B2.out.trans (b3.mono B2.out.size)
  have hz : (hashS (bys t ++ bys s)).size = 32 := hash_size _ (by have := HG.out; omega)
  clear b3 HF HG
  generalize hashS (bys t ++ bys s) = q at HM hz
  have hz8 : (8 : Int) ≤ (q.size : Int) := by omega
  clear hz
  go_wp2_with fail
  go_ret
  exact ⟨Tx.ret_str HM.out, B3.out⟩

set_option maxRecDepth 100000 in
set_option maxHeartbeats 400000 in
theorem readingMark_any (id : Nat) (x : Int) (w : World) (hi : id < 256) (hK : KTab w) (hp : 0 < w.heap.size) :
    Calls Tryz.prog 97 #[.int .i64 id, .int .i64 x] w fun e w' => e = .returned (.string (rmk id x)) ∧ Below w.heap.size w w' := by
  have HO : Hid (OwnF (w.alloc (.cells #[.int .u8 99, .int .u8 108, .int .u8 111, .int .u8 99, .int .u8 107] 5 (5, 6))) w.heap.size (.slice (some ⟨w.heap.size, 0, none⟩) 5 5) bClock) := full_lit w bClock 5 rfl _ rfl _
  have hk0 := Lib.run_convert_bytes_const (P := Tryz.prog) w 91 5 #[.int .u8 99, .int .u8 108, .int .u8 111, .int .u8 99, .int .u8 107] 5 5 Tryz.underlying91 Tryz.underlying5
  have HB : Hid (Below w.heap.size w (w.alloc (.cells #[.int .u8 99, .int .u8 108, .int .u8 111, .int .u8 99, .int .u8 107] 5 (5, 6)))) := bel_new _ _
  have HE : Hid (mac id (bys (strOfNums (bClock ++ nums x 4 4))) = rmk id x) := by show _ = _; rw [bys_str _ (rmk_range x)]; rfl
  have HZ : Hid ((strOfNums (bClock ++ nums x 4 4)).size = 9) := by show _ = _; rw [strOfNums_size, rmk_len]
  have GK : Hid (KTab w) := hK
  clear hK
  go_enter Tryz.func97, Tryz.ntmps97
  go_wp2_with fail
  clear hk0
  refine (putNumberF_any _ bClock x 4 w.heap.size _ HO.out HB.out.size (by decide) (by decide)).mono ?_
  rintro e w2 ⟨v2, rfl, o2, k2⟩
  have hcv := run_convert_ownF w2 w.heap.size v2 _ o2
  have B2 : Hid (Below w.heap.size w w2) := HB.out.trans k2
  clear o2 k2 HO HB
  generalize strOfNums (bClock ++ nums x 4 4) = z at hcv HE HZ
  go_wp2_with fail
  refine (markOf_any id z w2 hi (by have := HZ.out; omega) (GK.out.below B2.out hp) (Nat.lt_of_lt_of_le hp B2.out.size)).mono ?_
  rintro e w3 ⟨rfl, b3⟩
  rw [HE.out]
  go_wp2_with fail
  go_ret
  exact ⟨rfl, B2.out.trans (b3.mono B2.out.size)⟩

set_option maxRecDepth 100000 in
set_option maxHeartbeats 400000 in
theorem l04Secret_any (id : Nat) (w : World) (hi : id < 256) :
    Calls Tryz.prog 88 #[.int .i64 id] w fun e w' => e = .returned (.string (nsec id)) ∧ Below w.heap.size w w' := by
  have hcv := conv_one id
  have w1 : ((id : Int) % 256) = id := by omega
  have HE : Hid (bys (bNK ++ strOfNums [(id : Int)]) = bys bNK ++ [(id : Int)]) := by
    show _ = _
    rw [bys_append, bys_str _ (one_range id hi)]
  have HL : Hid ((bys bNK ++ [(id : Int)]).length ≤ 65536) := by
    show _ ≤ _
    rw [List.length_append, bys_length]
    have : bNK.size = 8 := rfl
    simp only [List.length_cons, List.length_nil]
    omega
  have HM : Hid (hashS (bys bNK ++ [(id : Int)]) = nsec id) := rfl
  have hz1 : (strOfNums [(id : Int)]).size = 1 := by rw [strOfNums_size]; rfl
  have hA : ¬ 9223372036854775807 < (⟨#[110, 111, 100, 101, 32, 107, 101, 121]⟩ : ByteArray).size + (strOfNums [(id : Int)]).size := by have : (⟨#[110, 111, 100, 101, 32, 107, 101, 121]⟩ : ByteArray).size = 8 := rfl; omega
  have hA' : ¬ 9223372036854775807 < 8 + (strOfNums [(id : Int)]).size := by omega
  clear hz1
  generalize strOfNums [(id : Int)] = z at hcv HE hA hA'
  obtain ⟨v2, w2, hc2, r2, b2⟩ := bytes_run (bNK ++ z) (w.alloc (.cells #[.int .u8 id] 5))
  have hc2' : (convert 9 91 (.string ((⟨#[110, 111, 100, 101, 32, 107, 101, 121]⟩ : ByteArray) ++ z))).run Tryz.prog (w.alloc (.cells #[.int .u8 id] 5)) = .ok v2 w2 := hc2
  have R2 : Hid (RowB w2 v2 (bys (bNK ++ z))) := r2
  have B2 : Hid (Below w.heap.size w w2) := (bel_new w _).trans (b2.mono (by rw [size_new]; omega))
  clear hc2 r2 b2
  go_enter Tryz.func88, Tryz.ntmps88
  go_wp2_with fail
  refine (hash1_any v2 _ w2 R2.out (by rw [HE.out]; exact HL.out)).mono ?_
  rintro e w3 ⟨rfl, b3⟩
  rw [HE.out, HM.out]
  go_wp2_with fail
  go_ret
  exact ⟨rfl, B2.out.trans (b3.mono B2.out.size)⟩

set_option maxRecDepth 100000 in
set_option maxHeartbeats 400000 in
theorem l04Mac_any (id : Nat) (v : Value) (xs : List Int) (w : World) (hi : id < 256) (h : RowB w v xs) (hne : xs ≠ []) (hl : xs.length ≤ 60000) :
    Calls Tryz.prog 64 #[.int .i64 id, v] w fun e w' => e = .returned (.string (mac id xs)) ∧ Below w.heap.size w w' := by
  obtain ⟨i0, hi0, hz0, hz1, hz2⟩ := info_parts Sl.info5
  have HR : Hid (RowB w v xs) := h
  have HX : Hid (xs ≠ [] ∧ xs.length ≤ 60000) := ⟨hne, hl⟩
  have HM : Hid ((hashS (bys (nsec id) ++ xs)).extract 0 8 = mac id xs) := rfl
  clear h hne hl
  go_enter Tryz.func64, Tryz.ntmps64
  go_wp2_with fail
  refine (l04Secret_any id w hi).mono ?_
  rintro e w1 ⟨rfl, b1⟩
  have hts := nsec_size id
  have htl := nsec_len id
  generalize nsec id = t at HM hts htl
  obtain ⟨cap, hcv, hcn, b2, hs2⟩ := conv_run t w1
  have HT : Hid (t.size = 32 ∧ (bys t).length = 32) := ⟨hts, htl⟩
  have HB2 : Hid (Below w1.heap.size w1 (Lib.bytesWorld w1 5 t)) := b2
  have HB1 : Hid (Below w.heap.size w w1) := b1
  obtain ⟨v3, w3, hap, r3, b3⟩ := run_conv (P := Tryz.prog) 91 91 Tryz.underlying91 hi0 hz0 hz1 hz2 w1.heap.size w1.heap.size cap t.size (Lib.bytesWorld w1 5 t) v (bys t) xs (by rw [bys_length]) hcn (Nat.le_refl _) ((HR.out.below b1).below b2) HX.out.1 (bys_range t) (by have := HX.out.2; omega)
  have R3 : Hid (RowB w3 v3 (bys t ++ xs)) := r3
  have B3 : Hid (Below w.heap.size w w3) := (b1.trans (b2.mono b1.size)).trans (b3.mono b1.size)
  clear b1 b2 b3 r3 hcn hs2 hts htl HB1 HB2
  generalize Lib.bytesWorld w1 5 t = wc at hcv hap
  go_wp2_with (at_builtin; go_must (refine wpList_plain (by rfl) fun K hK => ?_; refine wp_app (by rfl) (by rfl) (by rfl) hap (hK _ _ ?_)))
  refine (hash1_any v3 _ w3 R3.out (by rw [List.length_append, HT.out.2]; have := HX.out.2; omega)).mono ?_
  rintro e w4 ⟨rfl, b4⟩
  have B4 : Hid (Below w.heap.size w w4) := B3.out.trans (b4.mono B3.out.size)
  have hz : (hashS (bys t ++ xs)).size = 32 := hash_size _ (by rw [List.length_append, HT.out.2]; have := HX.out.2; omega)
  clear b4
  generalize hashS (bys t ++ xs) = q at HM hz
  have hz8 : (8 : Int) ≤ (q.size : Int) := by omega
  clear hz
  go_wp2_with fail
  go_ret
  exact ⟨Tx.ret_str HM.out, B4.out⟩
set_option maxRecDepth 100000 in
set_option maxHeartbeats 400000 in
theorem l04Reading_any (id : Nat) (x : Int) (w : World) (hi : id < 256) :
    Calls Tryz.prog 86 #[.int .i64 id, .int .i64 x] w fun e w' => e = .returned (.string (rmk id x)) ∧ Below w.heap.size w w' := by
  obtain ⟨i0, hi0, hz0, hz1, hz2⟩ := info_parts Sl.info5
  have HO : Hid (OwnF (w.alloc (.cells #[.int .u8 99, .int .u8 108, .int .u8 111, .int .u8 99, .int .u8 107] 5 (5, 6))) w.heap.size (.slice (some ⟨w.heap.size, 0, none⟩) 5 5) bClock) := full_lit w bClock 5 rfl _ rfl _
  have hk0 := Lib.run_convert_bytes_const (P := Tryz.prog) w 91 5 #[.int .u8 99, .int .u8 108, .int .u8 111, .int .u8 99, .int .u8 107] 5 5 Tryz.underlying91 Tryz.underlying5
  have HB : Hid (Below w.heap.size w (w.alloc (.cells #[.int .u8 99, .int .u8 108, .int .u8 111, .int .u8 99, .int .u8 107] 5 (5, 6)))) := bel_new _ _
  go_enter Tryz.func86, Tryz.ntmps86
  go_wp2_with fail
  clear hk0
  refine (l02Number_any x 4 _ (by decide)).mono ?_
  rintro e w2 ⟨v2, rfl, o2, b2⟩
  have O2 : Hid (OwnF w2 w.heap.size (.slice (some ⟨w.heap.size, 0, none⟩) 5 5) bClock) := OwnF.below HO.out b2
  have R2 : Hid (RowB w2 v2 (nums x 4 4)) := own_rowB o2 (nums_range x 4 4)
  have B2 : Hid (Below w.heap.size w w2) := HB.out.trans (b2.mono HB.out.size)
  clear o2 b2 HO HB
  obtain ⟨v3, w3, hap, o3, k3⟩ := run_rowF (P := Tryz.prog) 91 91 Tryz.underlying91 hi0 hz0 hz1 hz2 w.heap.size w2 _ v2 bClock (nums x 4 4) O2.out B2.out.size R2.out (fun e => by have := nums_length x 4 4; rw [e] at this; simp at this) (by rw [nums_length]; decide)
  go_wp2_with (at_builtin; go_must (refine wpList_plain (by rfl) fun K hK => ?_; refine wp_app (by rfl) (by rfl) (by rfl) hap (hK _ _ ?_)))
  have B3 : Hid (Below w.heap.size w w3) := B2.out.trans k3
  have R3 : Hid (RowB w3 v3 (bClock ++ nums x 4 4)) := own_rowB o3 (rmk_range x)
  have HN : Hid (bClock ++ nums x 4 4 ≠ [] ∧ (bClock ++ nums x 4 4).length ≤ 60000) := ⟨fun e => by have := rmk_len x; rw [e] at this; simp at this, by rw [rmk_len]; omega⟩
  clear o3 k3 O2 R2 B2
  go_wp2_with fail
  refine (l04Mac_any id v3 _ w3 hi R3.out HN.out.1 HN.out.2).mono ?_
  rintro e w4 ⟨rfl, b4⟩
  go_wp2_with fail
  go_ret
  exact ⟨rfl, B3.out.trans (b4.mono B3.out.size)⟩
end Go.Proofs.YtddmdnljfnimbaaGreatDoor.Mr

/- FaultsOf and AddTime, of the program and of the specification. -/
namespace Go.Proofs.YtddmdnljfnimbaaGreatDoor.Tm
open Go.RowKit

/-- What FaultsOf answers. -/
def fOut (n : Int) : Int := if n = 1 then 0 else if n = 4 then 1 else if n = 7 then 2 else 0
def fCode (n : Int) : Int := if n = 1 ∨ n = 4 ∨ n = 7 then 0 else 4
/-- What AddTime answers. -/
def adT (a b : Int) : Int := min (max a 0 + max b 0) 9223372036854775807
theorem ret_i {a b : Int} (h : a = b) : Ending.returned (.int .i64 a) = .returned (.int .i64 b) := by rw [h]
theorem ret_ii {a b c d : Int} (h : a = c ∧ b = d) : Ending.returned (.tuple #[.int .i64 a, .int .i64 b]) = .returned (.tuple #[.int .i64 c, .int .i64 d]) := by rw [h.1, h.2]
theorem f_cases (n : Int) : n = 1 ∨ n = 4 ∨ n = 7 ∨ (n ≠ 1 ∧ n ≠ 4 ∧ n ≠ 7 ∧ fOut n = 0 ∧ fCode n = 4) := by
  by_cases h1 : n = 1
  · exact .inl h1
  by_cases h2 : n = 4
  · exact .inr (.inl h2)
  by_cases h3 : n = 7
  · exact .inr (.inr (.inl h3))
  refine .inr (.inr (.inr ⟨h1, h2, h3, ?_, ?_⟩))
  · unfold fOut; rw [if_neg h1, if_neg h2, if_neg h3]
  · unfold fCode; rw [if_neg (by omega)]
set_option maxRecDepth 100000 in
set_option maxHeartbeats 400000 in
theorem implFaultsOf_any (n : Int) (w : World) : Calls Tryz.prog 34 #[.int .i64 n] w fun e w' => e = .returned (.tuple #[.int .i64 (fOut n), .int .i64 (fCode n)]) ∧ w' = w := by
  rcases f_cases n with rfl | rfl | rfl | ⟨h1, h2, h3, e1, e2⟩
  · go_enter Tryz.func34, Tryz.ntmps34
    go_wp2
    go_ret2
    exact ⟨ret_ii ⟨by decide, by decide⟩, rfl⟩
  · go_enter Tryz.func34, Tryz.ntmps34
    go_wp2
    go_ret2
    exact ⟨ret_ii ⟨by decide, by decide⟩, rfl⟩
  · go_enter Tryz.func34, Tryz.ntmps34
    go_wp2
    go_ret2
    exact ⟨ret_ii ⟨by decide, by decide⟩, rfl⟩
  · have HE : Hid (fOut n = 0 ∧ fCode n = 4) := ⟨e1, e2⟩
    have b1 : (n == 1) = false := by simpa using h1
    have b2 : (n == 4) = false := by simpa using h2
    have b3 : (n == 7) = false := by simpa using h3
    clear h1 h2 h3 e1 e2
    go_enter Tryz.func34, Tryz.ntmps34
    go_wp2
    go_ret2
    exact ⟨ret_ii ⟨HE.out.1.symm, HE.out.2.symm⟩, rfl⟩
end Go.Proofs.YtddmdnljfnimbaaGreatDoor.Tm

/- QuorumOf and PrimaryOf, of the program and of the specification. -/
namespace Go.Proofs.YtddmdnljfnimbaaGreatDoor.Qm
open Go.RowKit Go.Proofs.YtddmdnljfnimbaaGreatDoor.Tm

/-- What QuorumOf and PrimaryOf answer. -/
def qOut (n : Int) : Int := if n = 1 then 1 else if n = 4 then 3 else if n = 7 then 5 else 0
def pOut (v n : Int) : Int := if fCode n = 0 ∧ 0 ≤ v ∧ v ≤ 20 then v % n else 0
def pCode (v n : Int) : Int := if fCode n = 0 ∧ 0 ≤ v ∧ v ≤ 20 then 0 else 4
def inB (x a b : Int) : Bool := decide (a ≤ x ∧ x ≤ b)
theorem ret_bool {a b : Bool} (h : a = b) : Ending.returned (.bool a) = .returned (.bool b) := by rw [h]
theorem within_any (x a b : Int) (w : World) :
    Calls Tryz.prog 43 #[.int .i64 x, .int .i64 a, .int .i64 b] w fun e w' => e = .returned (.bool (inB x a b)) ∧ w = w' := by
  by_cases h1 : a ≤ x
  · by_cases h2 : x ≤ b
    all_goals
      go_enter Tryz.func43, Tryz.ntmps43
      go_wp2
      go_ret
      exact ⟨ret_bool (by unfold inB; rw [Bool.eq_iff_iff]; simp; try omega), rfl⟩
  · go_enter Tryz.func43, Tryz.ntmps43
    go_wp2
    go_ret
    exact ⟨ret_bool (by unfold inB; rw [Bool.eq_iff_iff]; simp; try omega), rfl⟩
theorem l01In_any (x a b : Int) (w : World) :
    Calls Tryz.prog 39 #[.int .i64 x, .int .i64 a, .int .i64 b] w fun e w' => e = .returned (.bool (inB x a b)) ∧ w = w' := by
  by_cases h1 : a ≤ x
  · by_cases h2 : x ≤ b
    all_goals
      go_enter Tryz.func39, Tryz.ntmps39
      go_wp2
      go_ret
      exact ⟨ret_bool (by unfold inB; rw [Bool.eq_iff_iff]; simp; try omega), rfl⟩
  · go_enter Tryz.func39, Tryz.ntmps39
    go_wp2
    go_ret
    exact ⟨ret_bool (by unfold inB; rw [Bool.eq_iff_iff]; simp; try omega), rfl⟩
theorem q_none {n : Int} (h1 : n ≠ 1) (h2 : n ≠ 4) (h3 : n ≠ 7) : qOut n = 0 := by unfold qOut; rw [if_neg h1, if_neg h2, if_neg h3]
set_option maxRecDepth 100000 in
set_option maxHeartbeats 400000 in
theorem implQuorumOf_any (n : Int) (w : World) : Calls Tryz.prog 42 #[.int .i64 n] w fun e w' => e = .returned (.tuple #[.int .i64 (qOut n), .int .i64 (fCode n)]) ∧ w = w' := by
  rcases f_cases n with rfl | rfl | rfl | ⟨h1, h2, h3, e1, e2⟩
  · have C : Calls Tryz.prog 34 #[.int .i64 1] w fun e w' => e = .returned (.tuple #[.int .i64 0, .int .i64 0]) ∧ w' = w := implFaultsOf_any 1 w
    go_enter Tryz.func42, Tryz.ntmps42
    go_wp2_with fail
    refine C.mono ?_
    rintro e w1 ⟨rfl, rfl⟩
    go_wp2_with fail
    go_ret2
    exact ⟨ret_ii ⟨by decide, by decide⟩, rfl⟩
  · have C : Calls Tryz.prog 34 #[.int .i64 4] w fun e w' => e = .returned (.tuple #[.int .i64 1, .int .i64 0]) ∧ w' = w := implFaultsOf_any 4 w
    go_enter Tryz.func42, Tryz.ntmps42
    go_wp2_with fail
    refine C.mono ?_
    rintro e w1 ⟨rfl, rfl⟩
    go_wp2_with fail
    go_ret2
    exact ⟨ret_ii ⟨by decide, by decide⟩, rfl⟩
  · have C : Calls Tryz.prog 34 #[.int .i64 7] w fun e w' => e = .returned (.tuple #[.int .i64 2, .int .i64 0]) ∧ w' = w := implFaultsOf_any 7 w
    go_enter Tryz.func42, Tryz.ntmps42
    go_wp2_with fail
    refine C.mono ?_
    rintro e w1 ⟨rfl, rfl⟩
    go_wp2_with fail
    go_ret2
    exact ⟨ret_ii ⟨by decide, by decide⟩, rfl⟩
  · have C : Calls Tryz.prog 34 #[.int .i64 n] w fun e w' => e = .returned (.tuple #[.int .i64 0, .int .i64 4]) ∧ w' = w := by have := implFaultsOf_any n w; rwa [e1, e2] at this
    have HE : Hid (qOut n = 0 ∧ fCode n = 4) := ⟨q_none h1 h2 h3, e2⟩
    clear h1 h2 h3 e1 e2
    go_enter Tryz.func42, Tryz.ntmps42
    go_wp2_with fail
    refine C.mono ?_
    rintro e w1 ⟨rfl, rfl⟩
    go_wp2_with fail
    go_ret2
    exact ⟨ret_ii ⟨HE.out.1.symm, HE.out.2.symm⟩, rfl⟩
set_option maxRecDepth 100000 in
set_option maxHeartbeats 400000 in
theorem l04Nodes_any (n : Int) (w : World) : Calls Tryz.prog 27 #[.int .i64 n] w fun e w' => e = .returned (.bool (decide (fCode n = 0))) ∧ w = w' := by
  rcases f_cases n with rfl | rfl | rfl | ⟨h1, h2, h3, _, hc⟩
  · go_enter Tryz.func27, Tryz.ntmps27
    go_wp2_with fail
    go_ret
    exact ⟨rfl, rfl⟩
  · go_enter Tryz.func27, Tryz.ntmps27
    go_wp2_with fail
    go_ret
    exact ⟨rfl, rfl⟩
  · go_enter Tryz.func27, Tryz.ntmps27
    go_wp2_with fail
    go_ret
    exact ⟨rfl, rfl⟩
  · have HC : Hid (fCode n = 4) := hc
    clear hc
    go_enter Tryz.func27, Tryz.ntmps27
    go_wp2_with fail
    go_ret
    exact ⟨by rw [HC.out]; simp [h1, h2, h3], rfl⟩
set_option maxRecDepth 100000 in
set_option maxHeartbeats 400000 in
theorem l06Quorum_any (n : Int) (w : World) (h : fCode n = 0) : Calls Tryz.prog 40 #[.int .i64 n] w fun e w' => e = .returned (.int .i64 (qOut n)) ∧ w = w' := by
  rcases f_cases n with rfl | rfl | rfl | ⟨h1, h2, h3, _, hc⟩
  · go_enter Tryz.func40, Tryz.ntmps40
    go_wp2_with fail
    go_ret
    exact ⟨rfl, rfl⟩
  · go_enter Tryz.func40, Tryz.ntmps40
    go_wp2_with fail
    go_ret
    exact ⟨rfl, rfl⟩
  · go_enter Tryz.func40, Tryz.ntmps40
    go_wp2_with fail
    go_ret
    exact ⟨rfl, rfl⟩
  · rw [hc] at h; cases h
theorem p_none {v n : Int} (h : ¬ (fCode n = 0 ∧ 0 ≤ v ∧ v ≤ 20)) : pOut v n = 0 ∧ pCode v n = 4 := by unfold pOut pCode; rw [if_neg h, if_neg h]; exact ⟨rfl, rfl⟩
theorem p_some {v n : Int} (h : fCode n = 0 ∧ 0 ≤ v ∧ v ≤ 20) : pOut v n = v % n ∧ pCode v n = 0 := by unfold pOut pCode; rw [if_pos h, if_pos h]; exact ⟨rfl, rfl⟩
end Go.Proofs.YtddmdnljfnimbaaGreatDoor.Qm

/- Signed messages: their marks, SignMessage, MessageSigned, of the program and of the specification. -/
namespace Go.Proofs.YtddmdnljfnimbaaGreatDoor.Si
open Go.RowKit Go.Proofs.YtddmdnljfnimbaaGreatDoor.Sl Go.Proofs.YtddmdnljfnimbaaGreatDoor.By Go.Proofs.YtddmdnljfnimbaaGreatDoor.Rq Go.Proofs.YtddmdnljfnimbaaGreatDoor.Ap Go.Proofs.YtddmdnljfnimbaaGreatDoor.Sh Go.Proofs.YtddmdnljfnimbaaGreatDoor.Ho Go.Proofs.YtddmdnljfnimbaaGreatDoor.Mr Go.Proofs.YtddmdnljfnimbaaGreatDoor.Ms Go.Proofs.YtddmdnljfnimbaaGreatDoor.Mp Go.Proofs.YtddmdnljfnimbaaGreatDoor.Rp Go.Proofs.YtddmdnljfnimbaaGreatDoor.Pu
open Go.Proofs.YtddmdnljfnimbaaGreatDoor.Tx (blk_cell blk_set blk_far blk_new bel_new)

theorem plainBs_range (kd vw sq fr : Int) (dg bd : ByteArray) : ∀ z ∈ plainBs kd vw sq fr dg bd, 0 ≤ z ∧ z ≤ 255 := by
  intro z hz
  exact msgBs_range kd vw sq fr dg bd ⟨#[]⟩ z (by unfold msgBs; exact List.mem_append_left _ hz)
theorem plain_ne (kd vw sq fr : Int) (dg bd : ByteArray) : plainBs kd vw sq fr dg bd ≠ [] := fun e => by have := plainBs_length kd vw sq fr dg bd; rw [e] at this; simp at this; omega
/-- The mark of a message of the node i. -/
def mmk (kd vw sq : Int) (i : Nat) (dg bd : ByteArray) : ByteArray := mac i (plainBs kd vw sq i dg bd)
theorem mmk_size (kd vw sq : Int) (i : Nat) (dg bd : ByteArray) (hd : dg.size ≤ 32) (hb : bd.size ≤ 20000) : (mmk kd vw sq i dg bd).size = 8 := by
  unfold mmk mac
  have h := hash_size (bys (nsec i) ++ plainBs kd vw sq i dg bd) (by rw [List.length_append, nsec_len, plainBs_length]; omega)
  rw [ByteArray.size_extract, h]; rfl
/-- Cells of a boxed message in every later world. -/
def BoxM (W : World) (b : Nat) (kd vw sq fr : Int) (dg bd mc : ByteArray) : Prop := W.cell? ⟨b, 0, none⟩ = some (.int .i64 kd) ∧ W.cell? ⟨b, 1, none⟩ = some (.int .i64 vw) ∧ W.cell? ⟨b, 2, none⟩ = some (.int .i64 sq) ∧ W.cell? ⟨b, 3, none⟩ = some (.int .i64 fr) ∧ W.cell? ⟨b, 4, none⟩ = some (.string dg) ∧ W.cell? ⟨b, 5, none⟩ = some (.string bd) ∧ W.cell? ⟨b, 6, none⟩ = some (.string mc)
theorem BoxM.of {W : World} {b : Nat} {kd vw sq fr : Int} {dg bd mc : ByteArray} {t : TypeId} (h : W.heap[b]? = some (.cells #[.int .i64 kd, .int .i64 vw, .int .i64 sq, .int .i64 fr, .string dg, .string bd, .string mc] t (0, 0))) : BoxM W b kd vw sq fr dg bd mc :=
  ⟨(blk_cell h 0 rfl).1, (blk_cell h 1 rfl).1, (blk_cell h 2 rfl).1, (blk_cell h 3 rfl).1, (blk_cell h 4 rfl).1, (blk_cell h 5 rfl).1, (blk_cell h 6 rfl).1⟩
set_option maxRecDepth 100000 in
set_option maxHeartbeats 800000 in
theorem messageMark_any (kd vw sq : Int) (i : Nat) (dg bd mc : ByteArray) (w : World) (hi : i < 7) (hq : msgB kd vw sq i dg bd mc = true) (hK : KTab w) (hp : 0 < w.heap.size) :
    Calls Tryz.prog 82 #[msgV kd vw sq i dg bd mc] w fun e w' => e = .returned (.string (mmk kd vw sq i dg bd)) ∧ Below w.heap.size w w' := by
  have GK : Hid (KTab w) := hK
  have C := implMessageBytes_any kd vw sq i dg bd mc
  have HC : Hid (msgCode kd vw sq i dg bd mc = 0) := by show _ = _; unfold msgCode; rw [hq]; rfl
  have HO : Hid (msgOut kd vw sq i dg bd mc = msgBs kd vw sq i dg bd mc) := by show _ = _; unfold msgOut; rw [hq]; rfl
  obtain ⟨hd, hb, hm⟩ := msg_small hq
  have HL : Hid ((msgBs kd vw sq i dg bd mc).length = 7 + dg.size + bd.size + 8) := by show _ = _; rw [msgBs_length, hm]
  have HP : Hid ((plainBs kd vw sq i dg bd).length = 7 + dg.size + bd.size) := plainBs_length _ _ _ _ _ _
  have HT : Hid (∀ j, j < (plainBs kd vw sq i dg bd).length → nth (msgBs kd vw sq i dg bd mc) j = nth (plainBs kd vw sq i dg bd) j) := fun j hj => by
    unfold nth msgBs
    rw [List.getD_eq_getElem?_getD, List.getD_eq_getElem?_getD, List.getElem?_append_left hj]
  have HM : Hid (mac i (bys (strOfNums (plainBs kd vw sq i dg bd))) = mmk kd vw sq i dg bd) := by show _ = _; rw [bys_str _ (plainBs_range kd vw sq i dg bd)]; rfl
  have HZ : Hid ((strOfNums (plainBs kd vw sq i dg bd)).size ≤ 60000) := by show _ ≤ _; rw [strOfNums_size, HP.out]; omega
  have HR : Hid (∀ z ∈ msgBs kd vw sq i dg bd mc, 0 ≤ z ∧ z ≤ 255) := msgBs_range kd vw sq i dg bd mc
  clear hK hm hq
  unfold msgV at C ⊢
  go_enter Tryz.func82, Tryz.ntmps82
  go_wp2_with fail
  refine (C _).mono ?_
  rintro e w1 ⟨v1, rfl, o1, b1⟩
  rw [HO.out] at o1
  have r1 := own_rowB o1 HR.out
  have g1 := box_first b1
  obtain ⟨q0, q1, q2, q3, q4, q5, q6⟩ := msg_box g1
  have B1 : Hid (Below w.heap.size w w1) := box_old g1
  clear b1 o1 g1 C
  obtain ⟨a, cap, rfl, h, _⟩ := r1
  rcases h with h | ⟨b, off, rfl, hc, hbl, hcell⟩
  · have := HL.out; rw [h] at this; simp at this
  rw [HL.out] at hc ⊢
  go_upto_region 2 with fail
  obtain ⟨X, hX, W, QI0, QO0⟩ := Qc.klass w1
  have QI : Hid (∀ w', Below w1.heap.size w1 w' → ∃ x, w' = W x) := QI0
  have QO : Hid (∀ x, Below w1.heap.size w1 (W x)) := QO0
  clear QI0 QO0
  have hcv : ∀ q, (convert 91 9 (.slice (some ⟨b, off, none⟩) (7 + dg.size + bd.size) cap)).run Tryz.prog (W q) = .ok (.string (strOfNums (plainBs kd vw sq i dg bd))) (W q) := fun q => run_convert_bytes_arg (P := Tryz.prog) (W q) 91 5 Tryz.underlying91 Tryz.underlying5 b off (7 + dg.size + bd.size) cap (plainBs kd vw sq i dg bd) HP.out (fun j hj => by
    rw [(QO.out q).cell (p := ⟨b, off + j, none⟩) hbl, hcell j (by have := HL.out; omega), HT.out j (by have := HP.out; omega)]; rfl) 9 Tryz.underlying9
  have y3 := Qc.cell_all QO.out q3
  have HMK : Hid (∀ z, z = strOfNums (plainBs kd vw sq i dg bd) → ∀ q, Calls Tryz.prog 106 #[.int .i64 i, .string z] (W q) fun e w' => e = .returned (.string (mmk kd vw sq i dg bd)) ∧ Below (W q).heap.size (W q) w') := fun z hz q => by
    subst hz
    have hb2 := B1.out.trans ((QO.out q).mono B1.out.size)
    have := markOf_any i _ (W q) (by omega) HZ.out (GK.out.below hb2 hp) (Nat.lt_of_lt_of_le hp hb2.size)
    rwa [HM.out] at this
  obtain ⟨z, HZZ⟩ : ∃ z, Hid (z = strOfNums (plainBs kd vw sq i dg bd)) := ⟨_, rfl⟩
  rw [← HZZ.out] at hcv
  have HMK2 : Hid (∀ q, Calls Tryz.prog 106 #[.int .i64 i, .string z] (W q) fun e w' => e = .returned (.string (mmk kd vw sq i dg bd)) ∧ Below (W q).heap.size (W q) w') := HMK.out z HZZ.out
  obtain ⟨n, hn⟩ : ∃ n, 7 + dg.size + bd.size = n := ⟨_, rfl⟩
  rw [hn] at hc hcv ⊢
  have hn2 : n ≤ 30000 := by omega
  have hn3 : IntKind.i64.wrap (((n + 8 : Nat) : Int) - 8) = (n : Int) := by rw [IntKind.wrap_i64]; omega
  have hn4 : IntKind.i64.wrap ((n : Int) + 8 - 8) = (n : Int) := by rw [IntKind.wrap_i64]; omega
  have hn5 : (n : Int) ≤ (cap : Int) := by omega
  have hn6 : n ≤ cap := by omega
  obtain ⟨mk, HE⟩ : ∃ mk, Hid (mk = mmk kd vw sq i dg bd) := ⟨_, rfl⟩
  rw [← HE.out] at HMK2
  clear hn q0 q1 q2 q3 q4 q5 q6 hcell HL HT HM HZ HP HMK HZZ GK HO HC HR hd hb hi hp hc hbl
  refine Qc.region_class (W := W) (by kernel_rfl) (by kernel_rfl) (QI.out _ Qc.from_drew) ?_
  repeat (go_big_quiet_step (first | (go_at_call 106; refine (HMK2.out _).mono ?_; rintro e w2 ⟨rfl, b2⟩; exact ⟨rfl, Qc.back QI.out QO.out b2⟩)))
  refine wpQuiet_nil ?_
  rintro _ ⟨xq, rfl⟩
  have G2 : Hid (Below w.heap.size w (W xq)) := B1.out.trans ((QO.out xq).mono B1.out.size)
  clear hcv y3
  generalize W xq = wq at G2 ⊢
  go_wp2_with fail
  go_ret
  exact ⟨Tx.ret_str HE.out, G2.out⟩
end Go.Proofs.YtddmdnljfnimbaaGreatDoor.Si
